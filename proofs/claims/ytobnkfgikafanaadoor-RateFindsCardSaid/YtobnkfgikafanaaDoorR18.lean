/-
  CONTRACTS of rates: Parse.
-/
import Derived.Test.YtobnkfgikafanaaDoorR17
import Derived.StillTailTactics
namespace Go.Proofs.YtobnkfgikafanaaDoor
open Go.RowKit Go.Lib
set_option linter.unusedVariables false
set_option linter.unusedSimpArgs false
theorem str_eq0 {s : ByteArray} (h : s.size ≠ 0) : (s.toList == ([] : List UInt8)) = false := by
  rw [ByteArray.toList_eq]
  cases hl : s.data.toList with
  | nil => exfalso; exact h (by show s.data.toList.length = 0; rw [hl]; rfl)
  | cons a l => rfl
def PaP (s : ByteArray) (f t : ByteArray) (n d e : Int) : Prop := ∀ w, Pow w → Errs w → 8 ≤ w.heap.size → Calls Tryd.prog 28 #[.string s] w fun x w' => x = .returned (.tuple #[.agg #[.string f, .string t, .int .i64 n, .int .i64 d], .int .i64 e]) ∧ Below w.heap.size w w'
set_option maxHeartbeats 800000 in
theorem pa_empty (s : ByteArray) (h : s.size = 0) : PaP s ⟨#[]⟩ ⟨#[]⟩ 0 0 1 := by
  intro w hT hE hw
  clear hT hE hw
  obtain rfl : s = ⟨#[]⟩ := ByteArray.ext (Array.ext' (List.length_eq_zero_iff.1 h))
  go_enter Tryd.func28, Tryd.ntmps28
  go_wp2
  exact bodyPost_ret (v := .tuple #[.agg #[.string ⟨#[]⟩, .string ⟨#[]⟩, .int .i64 0, .int .i64 0], .int .i64 1]) (by simp [results, Tryd.results28, go_sem]) rfl ⟨rfl, (by repeat (first | with_reducible exact Below.refl _ _ | with_reducible assumption | with_reducible refine Below.drew ?_ | with_reducible refine bel_alloc ?_ _ | with_reducible refine bel_drewN ?_ _))⟩
set_option maxHeartbeats 800000 in
theorem pa_short (s : ByteArray) (h0 : s.size ≠ 0) (h : s.size < 8) : PaP s ⟨#[]⟩ ⟨#[]⟩ 0 0 2 := by
  intro w hT hE hw
  clear hT hE hw
  have e0 := str_eq0 h0
  have g : (s.size : Int) < 8 := by omega
  go_enter Tryd.func28, Tryd.ntmps28
  go_wp2
  exact bodyPost_ret (v := .tuple #[.agg #[.string ⟨#[]⟩, .string ⟨#[]⟩, .int .i64 0, .int .i64 0], .int .i64 2]) (by simp [results, Tryd.results28, go_sem]) rfl ⟨rfl, (by repeat (first | with_reducible exact Below.refl _ _ | with_reducible assumption | with_reducible refine Below.drew ?_ | with_reducible refine bel_alloc ?_ _ | with_reducible refine bel_drewN ?_ _))⟩
set_option maxHeartbeats 800000 in
theorem pa_3 (s : ByteArray) (hs : s.size ≤ 1000) (h : 8 ≤ s.size) (h3 : byt s 3 ≠ 47) : PaP s ⟨#[]⟩ ⟨#[]⟩ 0 0 2 := by
  intro w hT hE hw
  clear hT hE hw
  have e0 := str_eq0 (s := s) (by omega)
  have g : ¬ (s.size : Int) < 8 := by omega
  have i3 := fun w => ix_at s 3 (by omega) (i := 3) rfl w
  have e3 : (byt s 3 != 47) = true := by simp [h3]
  clear h3
  generalize byt s 3 = c3 at *
  go_enter Tryd.func28, Tryd.ntmps28
  go_wp2
  exact bodyPost_ret (v := .tuple #[.agg #[.string ⟨#[]⟩, .string ⟨#[]⟩, .int .i64 0, .int .i64 0], .int .i64 2]) (by simp [results, Tryd.results28, go_sem]) rfl ⟨rfl, (by repeat (first | with_reducible exact Below.refl _ _ | with_reducible assumption | with_reducible refine Below.drew ?_ | with_reducible refine bel_alloc ?_ _ | with_reducible refine bel_drewN ?_ _))⟩
set_option maxHeartbeats 800000 in
theorem pa_7 (s : ByteArray) (hs : s.size ≤ 1000) (h : 8 ≤ s.size) (h3 : byt s 3 = 47) (h7 : byt s 7 ≠ 32) : PaP s ⟨#[]⟩ ⟨#[]⟩ 0 0 2 := by
  intro w hT hE hw
  clear hT hE hw
  have e0 := str_eq0 (s := s) (by omega)
  have g : ¬ (s.size : Int) < 8 := by omega
  have i3 := fun w => ix_at s 3 (by omega) (i := 3) rfl w
  have i7 := fun w => ix_at s 7 (by omega) (i := 7) rfl w
  have e3 : (byt s 3 != 47) = false := by simp [h3]
  have e7 : (byt s 7 != 32) = true := by simp [h7]
  clear h3 h7
  generalize byt s 3 = c3 at *
  generalize byt s 7 = c7 at *
  go_enter Tryd.func28, Tryd.ntmps28
  go_wp2
  exact bodyPost_ret (v := .tuple #[.agg #[.string ⟨#[]⟩, .string ⟨#[]⟩, .int .i64 0, .int .i64 0], .int .i64 2]) (by simp [results, Tryd.results28, go_sem]) rfl ⟨rfl, (by repeat (first | with_reducible exact Below.refl _ _ | with_reducible assumption | with_reducible refine Below.drew ?_ | with_reducible refine bel_alloc ?_ _ | with_reducible refine bel_drewN ?_ _))⟩
set_option maxHeartbeats 3200000 in
theorem pa_num (s : ByteArray) (hs : s.size ≤ 1000) (h : 8 ≤ s.size) (h3 : byt s 3 = 47) (h7 : byt s 7 = 32) (a b : ByteArray) (fo : Bool) (HC : Hid (∀ w, Calls Tryd.prog 42 #[.string (s.extract 8 s.size), .string ⟨#[47]⟩] w fun e w' => e = .returned (.tuple #[.string a, .string b, .bool fo]) ∧ Pushed w w')) (v1 v2 : Int) (b1 b2 : Bool) (H1 : Hid (NumP a v1 b1)) (H2 : Hid (NumP b v2 b2)) (hbad : fo = false ∨ b1 = false ∨ b2 = false) : PaP s ⟨#[]⟩ ⟨#[]⟩ 0 0 2 := by
  intro w hT hE hw
  have e0 := str_eq0 (s := s) (by omega)
  have g : ¬ (s.size : Int) < 8 := by omega
  have i3 := fun w => ix_at s 3 (by omega) (i := 3) rfl w
  have i7 := fun w => ix_at s 7 (by omega) (i := 7) rfl w
  have s8 := fun w => sl_l s 8 (by omega) (i := 8) rfl w
  have e3 : (byt s 3 != 47) = false := by simp [h3]
  have e7 : (byt s 7 != 32) = false := by simp [h7]
  clear h3 h7
  generalize byt s 3 = c3 at *
  generalize byt s 7 = c7 at *
  go_enter Tryd.func28, Tryd.ntmps28
  go_wp2_with fail
  refine (HC.out _).mono ?_
  rintro x w1 ⟨rfl, hP⟩
  have hB1 : Below w.heap.size w w1 := (bel_alloc (Below.refl _ _) _).trans (hP.below.mono (by simp))
  have hT1 := hT.later hB1 hw
  have hE1 := hE.later hB1 hw
  have hw1 := Nat.le_trans hw hB1.size
  have hA1 : Blk w1 w.heap.size 23 #[.string ⟨#[]⟩, .string ⟨#[]⟩, .int .i64 0, .int .i64 0] := (Blk.new _ _ _).below hP.below (by simp)
  go_wp2_with fail
  refine (H1.out _ hT1 hE1 hw1).mono ?_
  rintro x w2 ⟨rfl, hb2⟩
  have hB2 := hB1.trans (hb2.mono hB1.size)
  have hA2 := hA1.below hb2 hA1.lt
  go_wp2_with fail
  refine (H2.out _ (hT.later hB2 hw) (hE.later hB2 hw) (Nat.le_trans hw hB2.size)).mono ?_
  rintro x w3 ⟨rfl, hb3⟩
  have hB3 := hB2.trans (hb3.mono hB2.size)
  have hA3 := hA2.below hb3 hA2.lt
  have a0 := hA3.cell 0
  have a1 := hA3.cell 1
  have a2 := hA3.cell 2
  have a3 := hA3.cell 3
  have k0 := hA3.frozen 0
  have k1 := hA3.frozen 1
  have k2 := hA3.frozen 2
  have k3 := hA3.frozen 3
  have hl := hA3.lt
  clear hT hE hw hP hB1 hT1 hE1 hw1 hA1 hb2 hB2 hA2 hb3 HC H1 H2 h hs g
  have HB3 := Lib.hid hB3
  have HA3 := Lib.hid hA3
  clear hB3 hA3
  cases fo
  · clear hbad
    go_wp2
    have hF : Blk ((((w3.setCell ⟨w.heap.size, 0, none⟩ (.string ⟨#[]⟩)).setCell ⟨w.heap.size, 1, none⟩ (.string ⟨#[]⟩)).setCell ⟨w.heap.size, 2, none⟩ (.int .i64 0)).setCell ⟨w.heap.size, 3, none⟩ (.int .i64 0)) w.heap.size 23 #[.string ⟨#[]⟩, .string ⟨#[]⟩, .int .i64 0, .int .i64 0] := (((HA3.out.set_ 0 _).set_ 1 _).set_ 2 _).set_ 3 _
    have f0 := hF.cell 0
    have f1 := hF.cell 1
    have f2 := hF.cell 2
    have f3 := hF.cell 3
    exact bodyPost_ret (v := .tuple #[.agg #[.string ⟨#[]⟩, .string ⟨#[]⟩, .int .i64 0, .int .i64 0], .int .i64 2]) (by simp [results, Tryd.results28, go_sem, f0, f1, f2, f3]) rfl ⟨rfl, (((HB3.out.setCell (Nat.le_refl _) _).setCell (Nat.le_refl _) _).setCell (Nat.le_refl _) _).setCell (Nat.le_refl _) _⟩
  cases b1
  · clear hbad
    go_wp2
    have hF : Blk ((((w3.setCell ⟨w.heap.size, 0, none⟩ (.string ⟨#[]⟩)).setCell ⟨w.heap.size, 1, none⟩ (.string ⟨#[]⟩)).setCell ⟨w.heap.size, 2, none⟩ (.int .i64 0)).setCell ⟨w.heap.size, 3, none⟩ (.int .i64 0)) w.heap.size 23 #[.string ⟨#[]⟩, .string ⟨#[]⟩, .int .i64 0, .int .i64 0] := (((HA3.out.set_ 0 _).set_ 1 _).set_ 2 _).set_ 3 _
    have f0 := hF.cell 0
    have f1 := hF.cell 1
    have f2 := hF.cell 2
    have f3 := hF.cell 3
    exact bodyPost_ret (v := .tuple #[.agg #[.string ⟨#[]⟩, .string ⟨#[]⟩, .int .i64 0, .int .i64 0], .int .i64 2]) (by simp [results, Tryd.results28, go_sem, f0, f1, f2, f3]) rfl ⟨rfl, (((HB3.out.setCell (Nat.le_refl _) _).setCell (Nat.le_refl _) _).setCell (Nat.le_refl _) _).setCell (Nat.le_refl _) _⟩
  cases b2
  · clear hbad
    go_wp2
    have hF : Blk ((((w3.setCell ⟨w.heap.size, 0, none⟩ (.string ⟨#[]⟩)).setCell ⟨w.heap.size, 1, none⟩ (.string ⟨#[]⟩)).setCell ⟨w.heap.size, 2, none⟩ (.int .i64 0)).setCell ⟨w.heap.size, 3, none⟩ (.int .i64 0)) w.heap.size 23 #[.string ⟨#[]⟩, .string ⟨#[]⟩, .int .i64 0, .int .i64 0] := (((HA3.out.set_ 0 _).set_ 1 _).set_ 2 _).set_ 3 _
    have f0 := hF.cell 0
    have f1 := hF.cell 1
    have f2 := hF.cell 2
    have f3 := hF.cell 3
    exact bodyPost_ret (v := .tuple #[.agg #[.string ⟨#[]⟩, .string ⟨#[]⟩, .int .i64 0, .int .i64 0], .int .i64 2]) (by simp [results, Tryd.results28, go_sem, f0, f1, f2, f3]) rfl ⟨rfl, (((HB3.out.setCell (Nat.le_refl _) _).setCell (Nat.le_refl _) _).setCell (Nat.le_refl _) _).setCell (Nat.le_refl _) _⟩
  rcases hbad with h | h | h <;> cases h
set_option maxRecDepth 20000 in
set_option maxHeartbeats 3200000 in
theorem pa_ok (s : ByteArray) (hs : s.size ≤ 1000) (h : 8 ≤ s.size) (h3 : byt s 3 = 47) (h7 : byt s 7 = 32) (a b : ByteArray) (HC : Hid (∀ w, Calls Tryd.prog 42 #[.string (s.extract 8 s.size), .string ⟨#[47]⟩] w fun e w' => e = .returned (.tuple #[.string a, .string b, .bool true]) ∧ Pushed w w')) (v1 v2 : Int) (H1 : Hid (NumP a v1 true)) (H2 : Hid (NumP b v2 true)) (HE : Hid (chkR (s.extract 0 3) (s.extract 4 7) v1 v2 = 0)) : PaP s (s.extract 0 3) (s.extract 4 7) v1 v2 0 := by
  intro w hT hE hw
  have e0 := str_eq0 (s := s) (by omega)
  have g : ¬ (s.size : Int) < 8 := by omega
  have i3 := fun w => ix_at s 3 (by omega) (i := 3) rfl w
  have i7 := fun w => ix_at s 7 (by omega) (i := 7) rfl w
  have s8 := fun w => sl_l s 8 (by omega) (i := 8) rfl w
  have e3 : (byt s 3 != 47) = false := by simp [h3]
  have e7 : (byt s 7 != 32) = false := by simp [h7]
  have z3 : (s.extract 0 3).size = 3 := by rw [size_extract' _ _ _ (by omega)]
  have z4 : (s.extract 4 7).size = 3 := by rw [size_extract' _ _ _ (by omega)]
  have x3 := fun w => sl_h s 3 (by omega) (j := 3) rfl w
  have x4 := fun w => sl_lh s 4 7 (by omega) (by omega) (i := 4) (j := 7) rfl rfl w
  have CK := Lib.hid (fun w => chk_any (s.extract 0 3) (s.extract 4 7) v1 v2 (by omega) (by omega) HE w)
  clear HE
  generalize s.extract 0 3 = f at *
  generalize s.extract 4 7 = t at *
  clear h3 h7
  generalize byt s 3 = c3 at *
  generalize byt s 7 = c7 at *
  go_enter Tryd.func28, Tryd.ntmps28
  go_wp2_with fail
  refine (HC.out _).mono ?_
  rintro x w1 ⟨rfl, hP⟩
  have hB1 : Below w.heap.size w w1 := (bel_alloc (Below.refl _ _) _).trans (hP.below.mono (by simp))
  have hT1 := hT.later hB1 hw
  have hE1 := hE.later hB1 hw
  have hw1 := Nat.le_trans hw hB1.size
  have hA1 : Blk w1 w.heap.size 23 #[.string ⟨#[]⟩, .string ⟨#[]⟩, .int .i64 0, .int .i64 0] := (Blk.new _ _ _).below hP.below (by simp)
  go_wp2_with fail
  refine (H1.out _ hT1 hE1 hw1).mono ?_
  rintro x w2 ⟨rfl, hb2⟩
  have hB2 := hB1.trans (hb2.mono hB1.size)
  have hA2 := hA1.below hb2 hA1.lt
  go_wp2_with fail
  refine (H2.out _ (hT.later hB2 hw) (hE.later hB2 hw) (Nat.le_trans hw hB2.size)).mono ?_
  rintro x w3 ⟨rfl, hb3⟩
  have hB3 := hB2.trans (hb3.mono hB2.size)
  have hA3 := hA2.below hb3 hA2.lt
  have a0 := hA3.cell 0
  have a1 := hA3.cell 1
  have a2 := hA3.cell 2
  have a3 := hA3.cell 3
  have k0 := hA3.frozen 0
  have k1 := hA3.frozen 1
  have k2 := hA3.frozen 2
  have k3 := hA3.frozen 3
  have hl := hA3.lt
  clear hT hE hw hP hB1 hT1 hE1 hw1 hA1 hb2 hB2 hA2 hb3 HC H1 H2 h hs g
  have HB3 := Lib.hid hB3
  have HA3 := Lib.hid hA3
  clear hB3 hA3
  go_wp2_with fail
  go_region_held3 (fun w' => Below w3.heap.size w3 w') (exact (by repeat (first | with_reducible exact Below.refl _ _ | with_reducible assumption | with_reducible refine Below.drew ?_ | with_reducible refine bel_alloc ?_ _ | with_reducible refine bel_drewN ?_ _))) (fail)
  all_goals
    go_wp2_with fail
    refine (CK.out _).mono ?_
    rintro x w4 ⟨rfl, hP4⟩
    have hC4 : Blk w4 w3.heap.size 23 #[.string f, .string t, .int .i64 v1, .int .i64 v2] := (Blk.new w3 _ _).drew.below hP4.below (by simp)
    have hA4 : Blk w4 w.heap.size 23 #[.string ⟨#[]⟩, .string ⟨#[]⟩, .int .i64 0, .int .i64 0] := (HA3.out.alloc _).drew.below hP4.below (by simp; omega)
    have hB4 : Below w.heap.size w w4 := HB3.out.trans ((show Below w3.heap.size w3 (w3.alloc (.cells #[.string f, .string t, .int .i64 v1, .int .i64 v2] 23)).drew from by repeat (first | with_reducible exact Below.refl _ _ | with_reducible assumption | with_reducible refine Below.drew ?_ | with_reducible refine bel_alloc ?_ _ | with_reducible refine bel_drewN ?_ _)).trans (hP4.below.mono (by simp)) |>.mono HB3.out.size)
    clear a0 a1 a2 a3 k0 k1 k2 k3 HB3 HA3
    have a0 := hA4.cell 0
    have a1 := hA4.cell 1
    have a2 := hA4.cell 2
    have a3 := hA4.cell 3
    have k0 := hA4.frozen 0
    have k1 := hA4.frozen 1
    have k2 := hA4.frozen 2
    have k3 := hA4.frozen 3
    have c0 := hC4.cell 0
    have c1 := hC4.cell 1
    have c2 := hC4.cell 2
    have c3_ := hC4.cell 3
    have hl4 := hC4.lt
    have hl5 := hA4.lt
    go_wp2
    have hF : Blk ((((w4.setCell ⟨w.heap.size, 0, none⟩ (.string f)).setCell ⟨w.heap.size, 1, none⟩ (.string t)).setCell ⟨w.heap.size, 2, none⟩ (.int .i64 v1)).setCell ⟨w.heap.size, 3, none⟩ (.int .i64 v2)) w.heap.size 23 #[.string f, .string t, .int .i64 v1, .int .i64 v2] := (((hA4.set_ 0 _).set_ 1 _).set_ 2 _).set_ 3 _
    have f0 := hF.cell 0
    have f1 := hF.cell 1
    have f2 := hF.cell 2
    have f3 := hF.cell 3
    exact bodyPost_ret (v := .tuple #[.agg #[.string f, .string t, .int .i64 v1, .int .i64 v2], .int .i64 0]) (by simp [results, Tryd.results28, go_sem, f0, f1, f2, f3]) rfl ⟨rfl, (((hB4.setCell (Nat.le_refl _) _).setCell (Nat.le_refl _) _).setCell (Nat.le_refl _) _).setCell (Nat.le_refl _) _⟩
set_option maxRecDepth 20000 in
set_option maxHeartbeats 3200000 in
theorem pa_bad (s : ByteArray) (hs : s.size ≤ 1000) (h : 8 ≤ s.size) (h3 : byt s 3 = 47) (h7 : byt s 7 = 32) (a b : ByteArray) (HC : Hid (∀ w, Calls Tryd.prog 42 #[.string (s.extract 8 s.size), .string ⟨#[47]⟩] w fun e w' => e = .returned (.tuple #[.string a, .string b, .bool true]) ∧ Pushed w w')) (v1 v2 : Int) (H1 : Hid (NumP a v1 true)) (H2 : Hid (NumP b v2 true)) {e : Int} (HE : Hid (chkR (s.extract 0 3) (s.extract 4 7) v1 v2 = e)) (hne : (e != 0) = true) : PaP s ⟨#[]⟩ ⟨#[]⟩ 0 0 e := by
  intro w hT hE hw
  have e0 := str_eq0 (s := s) (by omega)
  have g : ¬ (s.size : Int) < 8 := by omega
  have i3 := fun w => ix_at s 3 (by omega) (i := 3) rfl w
  have i7 := fun w => ix_at s 7 (by omega) (i := 7) rfl w
  have s8 := fun w => sl_l s 8 (by omega) (i := 8) rfl w
  have e3 : (byt s 3 != 47) = false := by simp [h3]
  have e7 : (byt s 7 != 32) = false := by simp [h7]
  have z3 : (s.extract 0 3).size = 3 := by rw [size_extract' _ _ _ (by omega)]
  have z4 : (s.extract 4 7).size = 3 := by rw [size_extract' _ _ _ (by omega)]
  have x3 := fun w => sl_h s 3 (by omega) (j := 3) rfl w
  have x4 := fun w => sl_lh s 4 7 (by omega) (by omega) (i := 4) (j := 7) rfl rfl w
  have CK := Lib.hid (fun w => chk_any (s.extract 0 3) (s.extract 4 7) v1 v2 (by omega) (by omega) HE w)
  clear HE
  generalize s.extract 0 3 = f at *
  generalize s.extract 4 7 = t at *
  clear h3 h7
  generalize byt s 3 = c3 at *
  generalize byt s 7 = c7 at *
  go_enter Tryd.func28, Tryd.ntmps28
  go_wp2_with fail
  refine (HC.out _).mono ?_
  rintro x w1 ⟨rfl, hP⟩
  have hB1 : Below w.heap.size w w1 := (bel_alloc (Below.refl _ _) _).trans (hP.below.mono (by simp))
  have hT1 := hT.later hB1 hw
  have hE1 := hE.later hB1 hw
  have hw1 := Nat.le_trans hw hB1.size
  have hA1 : Blk w1 w.heap.size 23 #[.string ⟨#[]⟩, .string ⟨#[]⟩, .int .i64 0, .int .i64 0] := (Blk.new _ _ _).below hP.below (by simp)
  go_wp2_with fail
  refine (H1.out _ hT1 hE1 hw1).mono ?_
  rintro x w2 ⟨rfl, hb2⟩
  have hB2 := hB1.trans (hb2.mono hB1.size)
  have hA2 := hA1.below hb2 hA1.lt
  go_wp2_with fail
  refine (H2.out _ (hT.later hB2 hw) (hE.later hB2 hw) (Nat.le_trans hw hB2.size)).mono ?_
  rintro x w3 ⟨rfl, hb3⟩
  have hB3 := hB2.trans (hb3.mono hB2.size)
  have hA3 := hA2.below hb3 hA2.lt
  have a0 := hA3.cell 0
  have a1 := hA3.cell 1
  have a2 := hA3.cell 2
  have a3 := hA3.cell 3
  have k0 := hA3.frozen 0
  have k1 := hA3.frozen 1
  have k2 := hA3.frozen 2
  have k3 := hA3.frozen 3
  have hl := hA3.lt
  clear hT hE hw hP hB1 hT1 hE1 hw1 hA1 hb2 hB2 hA2 hb3 HC H1 H2 h hs g
  have HB3 := Lib.hid hB3
  have HA3 := Lib.hid hA3
  clear hB3 hA3
  go_wp2_with fail
  go_region_held3 (fun w' => Below w3.heap.size w3 w') (exact (by repeat (first | with_reducible exact Below.refl _ _ | with_reducible assumption | with_reducible refine Below.drew ?_ | with_reducible refine bel_alloc ?_ _ | with_reducible refine bel_drewN ?_ _))) (fail)
  all_goals
    go_wp2_with fail
    refine (CK.out _).mono ?_
    rintro x w4 ⟨rfl, hP4⟩
    have hC4 : Blk w4 w3.heap.size 23 #[.string f, .string t, .int .i64 v1, .int .i64 v2] := (Blk.new w3 _ _).drew.below hP4.below (by simp)
    have hA4 : Blk w4 w.heap.size 23 #[.string ⟨#[]⟩, .string ⟨#[]⟩, .int .i64 0, .int .i64 0] := (HA3.out.alloc _).drew.below hP4.below (by simp; omega)
    have hB4 : Below w.heap.size w w4 := HB3.out.trans ((show Below w3.heap.size w3 (w3.alloc (.cells #[.string f, .string t, .int .i64 v1, .int .i64 v2] 23)).drew from by repeat (first | with_reducible exact Below.refl _ _ | with_reducible assumption | with_reducible refine Below.drew ?_ | with_reducible refine bel_alloc ?_ _ | with_reducible refine bel_drewN ?_ _)).trans (hP4.below.mono (by simp)) |>.mono HB3.out.size)
    clear a0 a1 a2 a3 k0 k1 k2 k3 HB3 HA3
    have a0 := hA4.cell 0
    have a1 := hA4.cell 1
    have a2 := hA4.cell 2
    have a3 := hA4.cell 3
    have k0 := hA4.frozen 0
    have k1 := hA4.frozen 1
    have k2 := hA4.frozen 2
    have k3 := hA4.frozen 3
    have c0 := hC4.cell 0
    have c1 := hC4.cell 1
    have c2 := hC4.cell 2
    have c3_ := hC4.cell 3
    have hl4 := hC4.lt
    have hl5 := hA4.lt
    go_wp2
    have hF : Blk ((((w4.setCell ⟨w.heap.size, 0, none⟩ (.string ⟨#[]⟩)).setCell ⟨w.heap.size, 1, none⟩ (.string ⟨#[]⟩)).setCell ⟨w.heap.size, 2, none⟩ (.int .i64 0)).setCell ⟨w.heap.size, 3, none⟩ (.int .i64 0)) w.heap.size 23 #[.string ⟨#[]⟩, .string ⟨#[]⟩, .int .i64 0, .int .i64 0] := (((hA4.set_ 0 _).set_ 1 _).set_ 2 _).set_ 3 _
    have f0 := hF.cell 0
    have f1 := hF.cell 1
    have f2 := hF.cell 2
    have f3 := hF.cell 3
    exact bodyPost_ret (v := .tuple #[.agg #[.string ⟨#[]⟩, .string ⟨#[]⟩, .int .i64 0, .int .i64 0], .int .i64 e]) (by simp [results, Tryd.results28, go_sem, f0, f1, f2, f3]) rfl ⟨rfl, (((hB4.setCell (Nat.le_refl _) _).setCell (Nat.le_refl _) _).setCell (Nat.le_refl _) _).setCell (Nat.le_refl _) _⟩
end Go.Proofs.YtobnkfgikafanaaDoor
