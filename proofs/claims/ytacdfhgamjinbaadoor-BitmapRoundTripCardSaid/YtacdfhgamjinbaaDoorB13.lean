/-
  CONTRACTS of bitmaps: the specification's Set.
-/
import Derived.Test.YtacdfhgamjinbaaDoorB12
namespace Go.Proofs.YtacdfhgamjinbaaDoor
open Go.RowKit
set_option linter.unusedVariables false
theorem rof_own_v {B n : Nat} {l : List Int} {A : Option Addr} {k : Nat} {w : World} (ho : w.ownsRow B 3 1 (.slice A n k) n (l.map intV)) (hk : n ≤ k) (hl : n ≤ 300) {r : Option (Nat × Nat)} (HR : Hid (ofL l 0 0 = r)) :
    Calls Tryd.prog 22 #[.slice A n k] w fun e w' => e = .returned (ofV r) ∧ Below w.heap.size w w' :=
  rof_any A n k l w (Reads.of_own ho) hl hk HR
set_option maxHeartbeats 1000000 in
theorem rset_ok (a b x y : Nat) (z : Int) (ha : a < 18446744073709551616) (hb : b < 18446744073709551616) (HR : Hid (ofL (fl (hasN a b) 127 ++ [z]) 0 0 = some (x, y))) (w : World) :
    Calls Tryd.prog 10 #[bmV a b, .int .i64 z] w fun e w' => e = .returned (.tuple #[.agg #[.int .u64 (x : Int), .int .u64 (y : Int)], .int .i64 0]) ∧ Below w.heap.size w w' := by
  have hz : ∀ w : World, (zeroValue 24).run Tryd.prog w = .ok (.agg #[.int .u64 0, .int .u64 0]) w := fun _ => by kernel_rfl
  have LL := Lib.hid (fun B w (h : B ≤ w.heap.size) => rlist_any B a b ha hb w h)
  have hl1 := fl_len (hasN a b) 127
  obtain ⟨l, hl⟩ : ∃ l, l = fl (hasN a b) 127 := ⟨_, rfl⟩
  rw [← hl] at HR LL hl1
  clear hl ha hb
  go_enter Tryd.func10, Tryd.ntmps10
  go_wp2_with fail
  have HR0 : Hid (Blk ((w.alloc (.cells #[.int .u64 (a : Int), .int .u64 (b : Int)] 24)).alloc (.cells #[.int .u64 0, .int .u64 0] 24)) (w.heap.size + 1) 24 #[.int .u64 0, .int .u64 0]) := Lib.hid (Blk.newAt (by simp))
  have HW : Hid (Below w.heap.size w ((w.alloc (.cells #[.int .u64 (a : Int), .int .u64 (b : Int)] 24)).alloc (.cells #[.int .u64 0, .int .u64 0] 24))) := Lib.hid (((Below.refl _ _).alloc (Nat.le_refl _) _).alloc (by simp) _)
  refine (LL.out (w.heap.size + 2) _ (by simp)).mono ?_
  rintro e w1 ⟨A1, k1, rfl, hk1, ho1, hb1⟩
  have HO1 := Lib.hid ho1
  have HR1 := Lib.hid (HR0.out.bel hb1)
  have HW1 := Lib.hid (HW.out.trans (hb1.mono HW.out.size))
  have hs1 : w.heap.size + 2 ≤ w1.heap.size := by have := hb1.size; simpa using this
  clear hb1 ho1 HR0 HW
  go_wp2_with (at_builtin; refine wpList_append1 (.tmp 7) (.tmp 9) rfl rfl rfl rfl HO1.out (by omega) (by omega) ?_; intro v' w2 hown' hgrow; have HO2 : Hid (w2.ownsRow (w.heap.size + 2) 3 1 v' (l.length + 1) ((l ++ [z]).map intV)) := Lib.hid (by simpa using hown'); have HR2 := Lib.hid ((HR1.out.alloc _).grown hgrow fun h => own_blk_ne HO1.out HR1.out (by decide) h.symm); have HW2 := Lib.hid ((HW1.out.alloc HW1.out.size _).grown hgrow (by simp; omega) fun k hk => by have := (HO1.out.lt k hk).1; omega); clear hown' hgrow; obtain ⟨A3, k3, rfl, hk3⟩ := own_form HO2.out)
  refine (rof_own_v HO2.out hk3 (by omega) HR).mono ?_
  rintro e w3 ⟨rfl, hb3⟩
  have hR := HR2.out.bel hb3
  have r0 := hR.cell 0
  have r1 := hR.cell 1
  have r2 := hR.frozen 0
  have r3 := hR.frozen 1
  have HR3 := Lib.hid hR
  have HW3 := Lib.hid (HW2.out.trans (hb3.mono HW2.out.size))
  clear hR hb3
  simp only [ofV]
  go_wp2
  have hF : Blk ((w3.setCell ⟨w.heap.size + 1, 0, none⟩ (.int .u64 (x : Int))).setCell ⟨w.heap.size + 1, 1, none⟩ (.int .u64 (y : Int))) (w.heap.size + 1) 24 #[.int .u64 (x : Int), .int .u64 (y : Int)] := Blk.set2 HR3.out _ _
  have f0 := hF.cell 0
  have f1 := hF.cell 1
  exact bodyPost_ret (v := .tuple #[.agg #[.int .u64 (x : Int), .int .u64 (y : Int)], .int .i64 0]) (by simp [results, Tryd.results10, go_sem, f0, f1]) rfl ⟨rfl, (HW3.out.setCell (by simp) _).setCell (by simp) _⟩
set_option maxHeartbeats 1000000 in
theorem rset_bad (a b : Nat) (z : Int) (ha : a < 18446744073709551616) (hb : b < 18446744073709551616) (HR : Hid (ofL (fl (hasN a b) 127 ++ [z]) 0 0 = none)) (w : World) :
    Calls Tryd.prog 10 #[bmV a b, .int .i64 z] w fun e w' => e = .returned (.tuple #[.agg #[.int .u64 0, .int .u64 0], .int .i64 4]) ∧ Below w.heap.size w w' := by
  have hz : ∀ w : World, (zeroValue 24).run Tryd.prog w = .ok (.agg #[.int .u64 0, .int .u64 0]) w := fun _ => by kernel_rfl
  have LL := Lib.hid (fun B w (h : B ≤ w.heap.size) => rlist_any B a b ha hb w h)
  have hl1 := fl_len (hasN a b) 127
  obtain ⟨l, hl⟩ : ∃ l, l = fl (hasN a b) 127 := ⟨_, rfl⟩
  rw [← hl] at HR LL hl1
  clear hl ha hb
  go_enter Tryd.func10, Tryd.ntmps10
  go_wp2_with fail
  have HR0 : Hid (Blk ((w.alloc (.cells #[.int .u64 (a : Int), .int .u64 (b : Int)] 24)).alloc (.cells #[.int .u64 0, .int .u64 0] 24)) (w.heap.size + 1) 24 #[.int .u64 0, .int .u64 0]) := Lib.hid (Blk.newAt (by simp))
  have HW : Hid (Below w.heap.size w ((w.alloc (.cells #[.int .u64 (a : Int), .int .u64 (b : Int)] 24)).alloc (.cells #[.int .u64 0, .int .u64 0] 24))) := Lib.hid (((Below.refl _ _).alloc (Nat.le_refl _) _).alloc (by simp) _)
  refine (LL.out (w.heap.size + 2) _ (by simp)).mono ?_
  rintro e w1 ⟨A1, k1, rfl, hk1, ho1, hb1⟩
  have HO1 := Lib.hid ho1
  have HR1 := Lib.hid (HR0.out.bel hb1)
  have HW1 := Lib.hid (HW.out.trans (hb1.mono HW.out.size))
  have hs1 : w.heap.size + 2 ≤ w1.heap.size := by have := hb1.size; simpa using this
  clear hb1 ho1 HR0 HW
  go_wp2_with (at_builtin; refine wpList_append1 (.tmp 7) (.tmp 9) rfl rfl rfl rfl HO1.out (by omega) (by omega) ?_; intro v' w2 hown' hgrow; have HO2 : Hid (w2.ownsRow (w.heap.size + 2) 3 1 v' (l.length + 1) ((l ++ [z]).map intV)) := Lib.hid (by simpa using hown'); have HR2 := Lib.hid ((HR1.out.alloc _).grown hgrow fun h => own_blk_ne HO1.out HR1.out (by decide) h.symm); have HW2 := Lib.hid ((HW1.out.alloc HW1.out.size _).grown hgrow (by simp; omega) fun k hk => by have := (HO1.out.lt k hk).1; omega); clear hown' hgrow; obtain ⟨A3, k3, rfl, hk3⟩ := own_form HO2.out)
  refine (rof_own_v HO2.out hk3 (by omega) HR).mono ?_
  rintro e w3 ⟨rfl, hb3⟩
  have hR := HR2.out.bel hb3
  have r0 := hR.cell 0
  have r1 := hR.cell 1
  have r2 := hR.frozen 0
  have r3 := hR.frozen 1
  have HR3 := Lib.hid hR
  have HW3 := Lib.hid (HW2.out.trans (hb3.mono HW2.out.size))
  clear hR hb3
  simp only [ofV]
  go_wp2
  have hF : Blk ((w3.setCell ⟨w.heap.size + 1, 0, none⟩ (.int .u64 0)).setCell ⟨w.heap.size + 1, 1, none⟩ (.int .u64 0)) (w.heap.size + 1) 24 #[.int .u64 0, .int .u64 0] := Blk.set2 HR3.out _ _
  have f0 := hF.cell 0
  have f1 := hF.cell 1
  exact bodyPost_ret (v := .tuple #[.agg #[.int .u64 0, .int .u64 0], .int .i64 4]) (by simp [results, Tryd.results10, go_sem, f0, f1]) rfl ⟨rfl, (HW3.out.setCell (by simp) _).setCell (by simp) _⟩
theorem set_bad_of (a b : Nat) (hb : b < 18446744073709551616) (z : Int) (h : z < 2 ∨ 128 < z) : ofL (fl (hasN a b) 127 ++ [z]) 0 0 = none := by
  rw [ofL_append, of_list a b hb, Option.bind_some, ofL, if_pos h]
theorem set_ok_of (a b n : Nat) (hb : b < 18446744073709551616) (h2 : 2 ≤ n) (h : n ≤ 128) : ofL (fl (hasN a b) 127 ++ [(n : Int)]) 0 0 = some (clrN (a ||| hiN n), b ||| loN n) := by
  rw [ofL_append, of_list a b hb, Option.bind_some, ofL, if_neg (by omega), ofL, ← clr_or, clr_id (hiN n) (hi_lt n h2)]
  simp
theorem rset_in (a b n : Nat) (ha : a < 18446744073709551616) (hb : b < 18446744073709551616) (h2 : 2 ≤ n) (h : n ≤ 128) (w : World) :
    Calls Tryd.prog 10 #[bmV a b, .int .i64 (n : Int)] w fun e w' => e = .returned (.tuple #[bmV (clrN (a ||| hiN n)) (b ||| loN n), .int .i64 0]) ∧ Below w.heap.size w w' :=
  rset_ok a b _ _ n ha hb (Lib.hid (set_ok_of a b n hb h2 h)) w
theorem rset_out (a b : Nat) (ha : a < 18446744073709551616) (hb : b < 18446744073709551616) (n : Int) (h : n < 2 ∨ 128 < n) (w : World) :
    Calls Tryd.prog 10 #[bmV a b, .int .i64 n] w fun e w' => e = .returned (.tuple #[bmV 0 0, .int .i64 4]) ∧ Below w.heap.size w w' :=
  rset_bad a b n ha hb (Lib.hid (set_bad_of a b hb n h)) w
end Go.Proofs.YtacdfhgamjinbaaDoor
