/-
  PROVED: for every rate and string, the law RateTexts returns true: Parse inverts Format, Format of a parsed rate is the input, the inverse of the inverse is the rate in lowest terms, and the examples hold; the card ties the listed tables to the program's text. Conditions: none besides the form's own reach.
-/
import Derived.Test.YtobnkfgikafanaaDoorCards
import Derived.Test.YtobnkfgikafanaaDoorTie
import Derived.WalkKit
import Derived.ProofKit
import Derived.OpenShut
import Derived.ShutString
import Derived.ChangeOld
import Derived.Below
import Derived.Deep.DeepHandedRow
import Derived.Lib.LaidTab
import Derived.LaidMore
import Derived.Stop.LaidErr
import Derived.Stop.Joined
import Derived.LaidHandle
import Derived.ChangeSlices
import Derived.SliceStrings
import Derived.Deep.RegionHeld3
import Derived.Test.YtobnkfgikafanaaDoorROpen
import Derived.Test.YtobnkfgikafanaaDoorR19
namespace Go.Proofs.YtobnkfgikafanaaDoor.rateTexts
open Go.ChangeShapes Go.WideShapes Go.ChangeAt Go.RowKit
open Go.ChangeMaps (open_string shut_string)
set_option linter.unusedVariables false
theorem i64_in {x : Int} (h : (Lit.int .i64 x).wf = true) : -9223372036854775808 ≤ x ∧ x ≤ 9223372036854775807 := by
  simp [Lit.wf, IntKind.min, IntKind.max, IntKind.signed, IntKind.bits] at h
  exact ⟨by omega, by omega⟩
@[go_sem] theorem lt_far {a b : Nat} (c : Nat) (h : a < b) : (a < b + c) = True := by simp only [eq_iff_iff, iff_true]; omega
theorem chk_back2 {c t : ByteArray} {n d : Nat} (h : curR c t) (n0 : 1 ≤ n) (d0 : 1 ≤ d) (n1 : n ≤ 1099511627776) (d1 : d ≤ 1099511627776) : chkR t c (rdN d n) (rdD d n) = 0 := by
  have h1 := rdN_pos (b := n) d0
  have h2 := rdD_pos d0 n0
  have h3 := rdN_le d n
  have h4 := rdD_le d n
  rw [chkR, if_pos ⟨h.2.1, h.1, fun e => h.2.2 e.symm⟩, if_pos ⟨by omega, by omega, by omega, by omega⟩]
set_option maxRecDepth 20000 in
set_option maxHeartbeats 12800000 in
theorem walk (f t : ByteArray) (n d : Int) (s : ByteArray) (w : World) (hf : f.size ≤ maxLen) (ht : t.size ≤ maxLen) (wn : (Lit.int .i64 n).wf = true) (wd : (Lit.int .i64 d).wf = true) (hs : s.size ≤ maxLen) (hT : (Pow w ∧ 8 ≤ w.heap.size) ∧ Errs w) :
    Calls Tryd.prog 8 #[.agg #[.string f, .string t, .int .i64 n, .int .i64 d], .string s] w fun x w' => x = .returned (.bool true) ∧ Below w.heap.size w w' := by
  obtain ⟨⟨hP, hw⟩, hE⟩ := hT
  have AW : Hid (∀ w', Below w.heap.size w w' → Calls Tryd.prog 10 #[] w' fun e w'' => e = .returned (.bool true) ∧ Below w.heap.size w w'') := Lib.hid fun w' hb => (awake_any w' (hP.later hb hw) (Nat.le_trans hw hb.size)).mono fun e w'' h => ⟨h.1, hb.trans (h.2.mono hb.size)⟩
  have hA0 : Blk (w.alloc (.cells #[.string f, .string t, .int .i64 n, .int .i64 d] 23)) w.heap.size 23 #[.string f, .string t, .int .i64 n, .int .i64 d] := Blk.new _ _ _
  have hB0 : Below w.heap.size w (w.alloc (.cells #[.string f, .string t, .int .i64 n, .int .i64 d] 23)) := (Below.refl _ _).alloc (Nat.le_refl _) _
  by_cases hsm : ¬ (f.size ≤ 20 ∧ t.size ≤ 20)
  · have SM := Lib.hid (fun w => small_any f t n d hf ht (Lib.hid (decide_eq_false hsm)) w)
    clear hsm
    go_enter Tryd.func8, Tryd.ntmps8
    go_wp2_with fail
    refine (SM.out _).mono ?_
    rintro x w1 ⟨rfl, h1⟩
    have hA1 := hA0.below h1.below hA0.lt
    have hB1 := hB0.trans (h1.below.mono (by simp))
    have a0 := hA1.cell 0
    have a1 := hA1.cell 1
    have a2 := hA1.cell 2
    have a3 := hA1.cell 3
    have al := hA1.lt
    go_wp2_with fail
    refine (AW.out _ hB1).mono ?_
    rintro x w7 ⟨rfl, hb7⟩
    go_wp2
    go_ret
    exact ⟨rfl, hb7⟩
  have hs2 := Classical.byContradiction hsm
  have SM := Lib.hid (fun w => small_any f t n d hf ht (Lib.hid (decide_eq_true hs2)) w)
  unfold maxLen at hs
  by_cases hl : 200 < s.size
  · have g : (200 : Int) < (s.size : Int) := by omega
    clear hsm hs2
    go_enter Tryd.func8, Tryd.ntmps8
    go_wp2_with fail
    refine (SM.out _).mono ?_
    rintro x w1 ⟨rfl, h1⟩
    have hA1 := hA0.below h1.below hA0.lt
    have hB1 := hB0.trans (h1.below.mono (by simp))
    have a0 := hA1.cell 0
    have a1 := hA1.cell 1
    have a2 := hA1.cell 2
    have a3 := hA1.cell 3
    have al := hA1.lt
    go_wp2_with fail
    refine (AW.out _ hB1).mono ?_
    rintro x w7 ⟨rfl, hb7⟩
    go_wp2
    go_ret
    exact ⟨rfl, hb7⟩
  have g : ¬ (200 : Int) < (s.size : Int) := by omega
  have later : ∀ (f t : ByteArray) (n d e : Int) (s : ByteArray), PaP s f t n d e → Hid (∀ w', Below w.heap.size w w' → Calls Tryd.prog 28 #[.string s] w' fun x w'' => x = .returned (.tuple #[.agg #[.string f, .string t, .int .i64 n, .int .i64 d], .int .i64 e]) ∧ Below w.heap.size w w'') := fun f t n d e s h => Lib.hid fun w' hb => (h w' (hP.later hb hw) (hE.later hb hw) (Nat.le_trans hw hb.size)).mono fun x w'' h' => ⟨h'.1, hb.trans (h'.2.mono hb.size)⟩
  have laterF : ∀ (f t : ByteArray) (N D : Nat) (s : ByteArray), chkR f t (N : Int) (D : Int) = 0 → f.size ≤ 1000 → t.size ≤ 1000 → N ≤ 1099511627776 → D ≤ 1099511627776 → fmtR f t N D = s → Hid (∀ w', Below w.heap.size w w' → Calls Tryd.prog 15 #[.agg #[.string f, .string t, .int .i64 (N : Int), .int .i64 (D : Int)]] w' fun x w'' => x = .returned (.string s) ∧ Below w.heap.size w w'') := fun f t N D s hk z1 z2 z3 z4 hfm => Lib.hid fun w' hb => by
    have := fmt_ok f t N D z1 z2 (Lib.hid hk) z3 z4 w' (hP.later hb hw) (Nat.le_trans hw hb.size)
    rw [hfm] at this
    exact this.mono fun x w'' h' => ⟨h'.1, hb.trans (h'.2.mono hb.size)⟩
  have tot := parse_tot s (by omega)
  by_cases hk : chkR f t n d = 0
  · obtain ⟨hr, hnum⟩ := chk_ok hk
    obtain ⟨N, D, rfl, rfl, N0, D0, N1, D1⟩ := num_nat hnum
    have zf : f.size = 3 := hr.1.1
    have zt : t.size = 3 := hr.2.1.1
    obtain ⟨hpf, hpz⟩ := parse_fmt f t N D zf zt hk N1 D1
    have z1 := rdN_pos (b := N) D0
    have z2 := rdD_pos D0 N0
    have z3 := rdN_le D N
    have z4 := rdD_le D N
    have CK := Lib.hid (fun w => chk_any f t (N : Int) (D : Int) (by omega) (by omega) (Lib.hid hk) w)
    have F0 : Hid (∀ w', Below w.heap.size w w' → Calls Tryd.prog 15 #[.agg #[.string f, .string t, .int .i64 (N : Int), .int .i64 (D : Int)]] w' fun x w'' => x = .returned (.string (fmtR f t N D)) ∧ Below w'.heap.size w' w'') := Lib.hid fun w' hb => fmt_ok f t N D (by omega) (by omega) (Lib.hid hk) N1 D1 w' (hP.later hb hw) (Nat.le_trans hw hb.size)
    have PF : Hid (∀ w', Below w.heap.size w w' → Calls Tryd.prog 28 #[.string (fmtR f t N D)] w' fun x w'' => x = .returned (.tuple #[.agg #[.string f, .string t, .int .i64 (N : Int), .int .i64 (D : Int)], .int .i64 0]) ∧ Below w'.heap.size w' w'') := Lib.hid fun w' hb => hpf w' (hP.later hb hw) (hE.later hb hw) (Nat.le_trans hw hb.size)
    have I1 := Lib.hid (fun w => inv_ok f t N D (by omega) (by omega) (Lib.hid hk) N0 D0 (by omega) (by omega) w)
    have I20 := fun w => inv_ok t f (rdN D N) (rdD D N) (by omega) (by omega) (Lib.hid (chk_back2 hr N0 D0 N1 D1)) z1 z2 (by omega) (by omega) w
    rw [(rd_back (b := D) N0).1, (rd_back (b := D) N0).2] at I20
    have I2 := Lib.hid I20
    have RD := Lib.hid (fun w => red_ok N D N0 D0 (by omega) (by omega) w)
    clear I20 hpf hsm hs2 hl hr hnum hk N0 D0 N1 D1 z1 z2 z3 z4 hf ht hs wn wd
    generalize fmtR f t N D = S at *
    generalize rdN D N = p1 at *
    generalize rdD D N = q1 at *
    generalize rdN N D = p2 at *
    generalize rdD N D = q2 at *
    rcases tot with ⟨e, pa, he⟩ | ⟨f', t', N', D', pa, hk', zf', zt', n1', d1', hfm⟩
    · have PS := later _ _ _ _ _ _ pa
      clear pa later laterF hP hE hw zf zt hpz
      generalize (N : Int) = n at *
      generalize (D : Int) = d at *
      go_enter Tryd.func8, Tryd.ntmps8
      go_wp2_with fail
      refine (SM.out _).mono ?_
      rintro x w1 ⟨rfl, h1⟩
      have hA1 := hA0.below h1.below hA0.lt
      have hB1 := hB0.trans (h1.below.mono (by simp))
      have a0 := hA1.cell 0
      have a1 := hA1.cell 1
      have a2 := hA1.cell 2
      have a3 := hA1.cell 3
      have al := hA1.lt
      go_wp2_with fail
      refine (CK.out _).mono ?_
      rintro x w2 ⟨rfl, h2⟩
      have hA2 := hA1.below h2.below hA1.lt
      have hB2 := hB1.trans (h2.below.mono hB1.size)
      clear a0 a1 a2 a3 al
      have a0 := hA2.cell 0
      have a1 := hA2.cell 1
      have a2 := hA2.cell 2
      have a3 := hA2.cell 3
      have al := hA2.lt
      go_wp2_with fail
      refine (F0.out _ hB2).mono ?_
      rintro x w3 ⟨rfl, h3⟩
      have hA3 := hA2.below h3 hA2.lt
      have hB3 := hB2.trans (h3.mono hB2.size)
      go_wp2_with fail
      refine (PF.out _ hB3).mono ?_
      rintro x w4 ⟨rfl, h4⟩
      have hA4 := hA3.below h4 hA3.lt
      have HB4 := Lib.hid (hB3.trans (h4.mono hB3.size))
      clear a0 a1 a2 a3 al
      have a0 := hA4.cell 0
      have a1 := hA4.cell 1
      have a2 := hA4.cell 2
      have a3 := hA4.cell 3
      have al := hA4.lt
      have HA4 := Lib.hid hA4
      clear hA0 hA1 hA2 hA3 hA4 hB0 hB1 hB2 hB3 h1 h2 h3 h4
      go_wp2_with fail
      with_reducible refine (I1.out _).mono ?_
      rintro x w8 ⟨rfl, l1, n1, rfl⟩
      go_wp2_with fail
      with_reducible refine (I2.out _).mono ?_
      rintro x w8 ⟨rfl, l2, n2, rfl⟩
      have b0 : ∀ B1 B2 B3, ((push ((push (w4.alloc B1) l1).alloc B2) l2).alloc B3).cell? { block := w.heap.size, off := 0 } = some (.string f) := fun B1 B2 B3 => (HA4.out.below (Pushed.below (by repeat (first | with_reducible exact Pushed.refl _ | with_reducible refine Pushed.push ?_ _ | with_reducible refine Pushed.alloc ?_ _ | with_reducible refine Pushed.drewN ?_ _ | with_reducible refine Pushed.drew ?_))) HA4.out.lt).cell 0
      have b1 : ∀ B1 B2 B3, ((push ((push (w4.alloc B1) l1).alloc B2) l2).alloc B3).cell? { block := w.heap.size, off := 1 } = some (.string t) := fun B1 B2 B3 => (HA4.out.below (Pushed.below (by repeat (first | with_reducible exact Pushed.refl _ | with_reducible refine Pushed.push ?_ _ | with_reducible refine Pushed.alloc ?_ _ | with_reducible refine Pushed.drewN ?_ _ | with_reducible refine Pushed.drew ?_))) HA4.out.lt).cell 1
      have b2 : ∀ B1 B2 B3, ((push ((push (w4.alloc B1) l1).alloc B2) l2).alloc B3).cell? { block := w.heap.size, off := 2 } = some (.int .i64 n) := fun B1 B2 B3 => (HA4.out.below (Pushed.below (by repeat (first | with_reducible exact Pushed.refl _ | with_reducible refine Pushed.push ?_ _ | with_reducible refine Pushed.alloc ?_ _ | with_reducible refine Pushed.drewN ?_ _ | with_reducible refine Pushed.drew ?_))) HA4.out.lt).cell 2
      have b3 : ∀ B1 B2 B3, ((push ((push (w4.alloc B1) l1).alloc B2) l2).alloc B3).cell? { block := w.heap.size, off := 3 } = some (.int .i64 d) := fun B1 B2 B3 => (HA4.out.below (Pushed.below (by repeat (first | with_reducible exact Pushed.refl _ | with_reducible refine Pushed.push ?_ _ | with_reducible refine Pushed.alloc ?_ _ | with_reducible refine Pushed.drewN ?_ _ | with_reducible refine Pushed.drew ?_))) HA4.out.lt).cell 3
      go_wp2_with fail
      with_reducible refine (RD.out _).mono ?_
      rintro x w8 ⟨rfl, l3, n3, rfl⟩
      clear b0 b1 b2 b3
      have b0 : ∀ B1 B2 B3, (push ((push ((push (w4.alloc B1) l1).alloc B2) l2).alloc B3) l3).cell? { block := w.heap.size, off := 0 } = some (.string f) := fun B1 B2 B3 => (HA4.out.below (Pushed.below (by repeat (first | with_reducible exact Pushed.refl _ | with_reducible refine Pushed.push ?_ _ | with_reducible refine Pushed.alloc ?_ _ | with_reducible refine Pushed.drewN ?_ _ | with_reducible refine Pushed.drew ?_))) HA4.out.lt).cell 0
      have b1 : ∀ B1 B2 B3, (push ((push ((push (w4.alloc B1) l1).alloc B2) l2).alloc B3) l3).cell? { block := w.heap.size, off := 1 } = some (.string t) := fun B1 B2 B3 => (HA4.out.below (Pushed.below (by repeat (first | with_reducible exact Pushed.refl _ | with_reducible refine Pushed.push ?_ _ | with_reducible refine Pushed.alloc ?_ _ | with_reducible refine Pushed.drewN ?_ _ | with_reducible refine Pushed.drew ?_))) HA4.out.lt).cell 1
      have b2 : ∀ B1 B2 B3, (push ((push ((push (w4.alloc B1) l1).alloc B2) l2).alloc B3) l3).cell? { block := w.heap.size, off := 2 } = some (.int .i64 n) := fun B1 B2 B3 => (HA4.out.below (Pushed.below (by repeat (first | with_reducible exact Pushed.refl _ | with_reducible refine Pushed.push ?_ _ | with_reducible refine Pushed.alloc ?_ _ | with_reducible refine Pushed.drewN ?_ _ | with_reducible refine Pushed.drew ?_))) HA4.out.lt).cell 2
      have b3 : ∀ B1 B2 B3, (push ((push ((push (w4.alloc B1) l1).alloc B2) l2).alloc B3) l3).cell? { block := w.heap.size, off := 3 } = some (.int .i64 d) := fun B1 B2 B3 => (HA4.out.below (Pushed.below (by repeat (first | with_reducible exact Pushed.refl _ | with_reducible refine Pushed.push ?_ _ | with_reducible refine Pushed.alloc ?_ _ | with_reducible refine Pushed.drewN ?_ _ | with_reducible refine Pushed.drew ?_))) HA4.out.lt).cell 3
      go_wp2_with fail
      refine (PS.out _ (HB4.out.trans ((Pushed.below (by repeat (first | with_reducible exact Pushed.refl _ | with_reducible refine Pushed.push ?_ _ | with_reducible refine Pushed.alloc ?_ _ | with_reducible refine Pushed.drewN ?_ _ | with_reducible refine Pushed.drew ?_))).mono HB4.out.size))).mono ?_
      rintro x w5 ⟨rfl, hb5⟩
      go_wp2_with fail
      refine (AW.out _ (bel_alloc hb5 _)).mono ?_
      rintro x w7 ⟨rfl, hb7⟩
      go_wp2
      go_ret
      exact ⟨rfl, hb7⟩
    · have PS := later _ _ _ _ _ _ pa
      have FX := laterF f' t' N' D' s hk' (by omega) (by omega) n1' d1' hfm
      clear pa later laterF hP hE hw zf zt hpz hk' zf' zt' n1' d1' hfm
      generalize (N : Int) = n at *
      generalize (D : Int) = d at *
      generalize (N' : Int) = n' at *
      generalize (D' : Int) = d' at *
      go_enter Tryd.func8, Tryd.ntmps8
      go_wp2_with fail
      refine (SM.out _).mono ?_
      rintro x w1 ⟨rfl, h1⟩
      have hA1 := hA0.below h1.below hA0.lt
      have hB1 := hB0.trans (h1.below.mono (by simp))
      have a0 := hA1.cell 0
      have a1 := hA1.cell 1
      have a2 := hA1.cell 2
      have a3 := hA1.cell 3
      have al := hA1.lt
      go_wp2_with fail
      refine (CK.out _).mono ?_
      rintro x w2 ⟨rfl, h2⟩
      have hA2 := hA1.below h2.below hA1.lt
      have hB2 := hB1.trans (h2.below.mono hB1.size)
      clear a0 a1 a2 a3 al
      have a0 := hA2.cell 0
      have a1 := hA2.cell 1
      have a2 := hA2.cell 2
      have a3 := hA2.cell 3
      have al := hA2.lt
      go_wp2_with fail
      refine (F0.out _ hB2).mono ?_
      rintro x w3 ⟨rfl, h3⟩
      have hA3 := hA2.below h3 hA2.lt
      have hB3 := hB2.trans (h3.mono hB2.size)
      go_wp2_with fail
      refine (PF.out _ hB3).mono ?_
      rintro x w4 ⟨rfl, h4⟩
      have hA4 := hA3.below h4 hA3.lt
      have HB4 := Lib.hid (hB3.trans (h4.mono hB3.size))
      clear a0 a1 a2 a3 al
      have a0 := hA4.cell 0
      have a1 := hA4.cell 1
      have a2 := hA4.cell 2
      have a3 := hA4.cell 3
      have al := hA4.lt
      have HA4 := Lib.hid hA4
      clear hA0 hA1 hA2 hA3 hA4 hB0 hB1 hB2 hB3 h1 h2 h3 h4
      go_wp2_with fail
      with_reducible refine (I1.out _).mono ?_
      rintro x w8 ⟨rfl, l1, n1, rfl⟩
      go_wp2_with fail
      with_reducible refine (I2.out _).mono ?_
      rintro x w8 ⟨rfl, l2, n2, rfl⟩
      have b0 : ∀ B1 B2 B3, ((push ((push (w4.alloc B1) l1).alloc B2) l2).alloc B3).cell? { block := w.heap.size, off := 0 } = some (.string f) := fun B1 B2 B3 => (HA4.out.below (Pushed.below (by repeat (first | with_reducible exact Pushed.refl _ | with_reducible refine Pushed.push ?_ _ | with_reducible refine Pushed.alloc ?_ _ | with_reducible refine Pushed.drewN ?_ _ | with_reducible refine Pushed.drew ?_))) HA4.out.lt).cell 0
      have b1 : ∀ B1 B2 B3, ((push ((push (w4.alloc B1) l1).alloc B2) l2).alloc B3).cell? { block := w.heap.size, off := 1 } = some (.string t) := fun B1 B2 B3 => (HA4.out.below (Pushed.below (by repeat (first | with_reducible exact Pushed.refl _ | with_reducible refine Pushed.push ?_ _ | with_reducible refine Pushed.alloc ?_ _ | with_reducible refine Pushed.drewN ?_ _ | with_reducible refine Pushed.drew ?_))) HA4.out.lt).cell 1
      have b2 : ∀ B1 B2 B3, ((push ((push (w4.alloc B1) l1).alloc B2) l2).alloc B3).cell? { block := w.heap.size, off := 2 } = some (.int .i64 n) := fun B1 B2 B3 => (HA4.out.below (Pushed.below (by repeat (first | with_reducible exact Pushed.refl _ | with_reducible refine Pushed.push ?_ _ | with_reducible refine Pushed.alloc ?_ _ | with_reducible refine Pushed.drewN ?_ _ | with_reducible refine Pushed.drew ?_))) HA4.out.lt).cell 2
      have b3 : ∀ B1 B2 B3, ((push ((push (w4.alloc B1) l1).alloc B2) l2).alloc B3).cell? { block := w.heap.size, off := 3 } = some (.int .i64 d) := fun B1 B2 B3 => (HA4.out.below (Pushed.below (by repeat (first | with_reducible exact Pushed.refl _ | with_reducible refine Pushed.push ?_ _ | with_reducible refine Pushed.alloc ?_ _ | with_reducible refine Pushed.drewN ?_ _ | with_reducible refine Pushed.drew ?_))) HA4.out.lt).cell 3
      go_wp2_with fail
      with_reducible refine (RD.out _).mono ?_
      rintro x w8 ⟨rfl, l3, n3, rfl⟩
      clear b0 b1 b2 b3
      have b0 : ∀ B1 B2 B3, (push ((push ((push (w4.alloc B1) l1).alloc B2) l2).alloc B3) l3).cell? { block := w.heap.size, off := 0 } = some (.string f) := fun B1 B2 B3 => (HA4.out.below (Pushed.below (by repeat (first | with_reducible exact Pushed.refl _ | with_reducible refine Pushed.push ?_ _ | with_reducible refine Pushed.alloc ?_ _ | with_reducible refine Pushed.drewN ?_ _ | with_reducible refine Pushed.drew ?_))) HA4.out.lt).cell 0
      have b1 : ∀ B1 B2 B3, (push ((push ((push (w4.alloc B1) l1).alloc B2) l2).alloc B3) l3).cell? { block := w.heap.size, off := 1 } = some (.string t) := fun B1 B2 B3 => (HA4.out.below (Pushed.below (by repeat (first | with_reducible exact Pushed.refl _ | with_reducible refine Pushed.push ?_ _ | with_reducible refine Pushed.alloc ?_ _ | with_reducible refine Pushed.drewN ?_ _ | with_reducible refine Pushed.drew ?_))) HA4.out.lt).cell 1
      have b2 : ∀ B1 B2 B3, (push ((push ((push (w4.alloc B1) l1).alloc B2) l2).alloc B3) l3).cell? { block := w.heap.size, off := 2 } = some (.int .i64 n) := fun B1 B2 B3 => (HA4.out.below (Pushed.below (by repeat (first | with_reducible exact Pushed.refl _ | with_reducible refine Pushed.push ?_ _ | with_reducible refine Pushed.alloc ?_ _ | with_reducible refine Pushed.drewN ?_ _ | with_reducible refine Pushed.drew ?_))) HA4.out.lt).cell 2
      have b3 : ∀ B1 B2 B3, (push ((push ((push (w4.alloc B1) l1).alloc B2) l2).alloc B3) l3).cell? { block := w.heap.size, off := 3 } = some (.int .i64 d) := fun B1 B2 B3 => (HA4.out.below (Pushed.below (by repeat (first | with_reducible exact Pushed.refl _ | with_reducible refine Pushed.push ?_ _ | with_reducible refine Pushed.alloc ?_ _ | with_reducible refine Pushed.drewN ?_ _ | with_reducible refine Pushed.drew ?_))) HA4.out.lt).cell 3
      go_wp2_with fail
      refine (PS.out _ (HB4.out.trans ((Pushed.below (by repeat (first | with_reducible exact Pushed.refl _ | with_reducible refine Pushed.push ?_ _ | with_reducible refine Pushed.alloc ?_ _ | with_reducible refine Pushed.drewN ?_ _ | with_reducible refine Pushed.drew ?_))).mono HB4.out.size))).mono ?_
      rintro x w5 ⟨rfl, hb5⟩
      go_wp2_with fail
      refine (FX.out _ (bel_alloc hb5 _)).mono ?_
      rintro x w6 ⟨rfl, hb6⟩
      go_wp2_with fail
      refine (AW.out _ hb6).mono ?_
      rintro x w7 ⟨rfl, hb7⟩
      go_wp2
      go_ret
      exact ⟨rfl, hb7⟩
  · have CK := Lib.hid (fun w => chk_any f t n d (by omega) (by omega) (Lib.hid rfl) w)
    have hne := chk_ne hk
    have hne2 : (chkR f t n d == 0) = false := by simp [hk]
    have F0 : Hid (∀ w', Below w.heap.size w w' → Calls Tryd.prog 15 #[.agg #[.string f, .string t, .int .i64 n, .int .i64 d]] w' fun x w'' => x = .returned (.string ⟨#[]⟩) ∧ Below w'.heap.size w' w'') := Lib.hid fun w' hb => pb (fmt_err f t n d (by omega) (by omega) (Lib.hid rfl) (chk_ne hk) w')
    generalize chkR f t n d = c at *
    clear hsm hs2 hl hk hf ht hs wn wd
    rcases tot with ⟨e, pa, he⟩ | ⟨f', t', N', D', pa, hk', zf', zt', n1', d1', hfm⟩
    · have PS := later _ _ _ _ _ _ pa
      clear pa later laterF hP hE hw
      go_enter Tryd.func8, Tryd.ntmps8
      go_wp2_with fail
      refine (SM.out _).mono ?_
      rintro x w1 ⟨rfl, h1⟩
      have hA1 := hA0.below h1.below hA0.lt
      have hB1 := hB0.trans (h1.below.mono (by simp))
      have a0 := hA1.cell 0
      have a1 := hA1.cell 1
      have a2 := hA1.cell 2
      have a3 := hA1.cell 3
      have al := hA1.lt
      go_wp2_with fail
      refine (CK.out _).mono ?_
      rintro x w2 ⟨rfl, h2⟩
      have hA2 := hA1.below h2.below hA1.lt
      have hB2 := hB1.trans (h2.below.mono hB1.size)
      clear a0 a1 a2 a3 al
      have a0 := hA2.cell 0
      have a1 := hA2.cell 1
      have a2 := hA2.cell 2
      have a3 := hA2.cell 3
      have al := hA2.lt
      go_wp2_with fail
      refine (F0.out _ hB2).mono ?_
      rintro x w3 ⟨rfl, h3⟩
      have hB3 := hB2.trans (h3.mono hB2.size)
      clear a0 a1 a2 a3 al hA0 hA1 hA2 hB0 hB1 hB2 h1 h2 h3
      go_wp2_with fail
      refine (PS.out _ hB3).mono ?_
      rintro x w5 ⟨rfl, hb5⟩
      go_wp2_with fail
      refine (AW.out _ (bel_alloc hb5 _)).mono ?_
      rintro x w7 ⟨rfl, hb7⟩
      go_wp2
      go_ret
      exact ⟨rfl, hb7⟩
    · have PS := later _ _ _ _ _ _ pa
      have FX := laterF f' t' N' D' s hk' (by omega) (by omega) n1' d1' hfm
      clear pa later laterF hP hE hw hk' zf' zt' n1' d1' hfm
      generalize (N' : Int) = n' at *
      generalize (D' : Int) = d' at *
      go_enter Tryd.func8, Tryd.ntmps8
      go_wp2_with fail
      refine (SM.out _).mono ?_
      rintro x w1 ⟨rfl, h1⟩
      have hA1 := hA0.below h1.below hA0.lt
      have hB1 := hB0.trans (h1.below.mono (by simp))
      have a0 := hA1.cell 0
      have a1 := hA1.cell 1
      have a2 := hA1.cell 2
      have a3 := hA1.cell 3
      have al := hA1.lt
      go_wp2_with fail
      refine (CK.out _).mono ?_
      rintro x w2 ⟨rfl, h2⟩
      have hA2 := hA1.below h2.below hA1.lt
      have hB2 := hB1.trans (h2.below.mono hB1.size)
      clear a0 a1 a2 a3 al
      have a0 := hA2.cell 0
      have a1 := hA2.cell 1
      have a2 := hA2.cell 2
      have a3 := hA2.cell 3
      have al := hA2.lt
      go_wp2_with fail
      refine (F0.out _ hB2).mono ?_
      rintro x w3 ⟨rfl, h3⟩
      have hB3 := hB2.trans (h3.mono hB2.size)
      clear a0 a1 a2 a3 al hA0 hA1 hA2 hB0 hB1 hB2 h1 h2 h3
      go_wp2_with fail
      refine (PS.out _ hB3).mono ?_
      rintro x w5 ⟨rfl, hb5⟩
      go_wp2_with fail
      refine (FX.out _ (bel_alloc hb5 _)).mono ?_
      rintro x w6 ⟨rfl, hb6⟩
      go_wp2_with fail
      refine (AW.out _ hb6).mono ?_
      rintro x w7 ⟨rfl, hb7⟩
      go_wp2
      go_ret
      exact ⟨rfl, hb7⟩

theorem own : ownKnob Tryd.prog.godebug = none := by kernel_rfl
theorem laidOut : laidOutB Tryd.prog = true := by kernel_rfl
theorem gTab : Tryd.prog.globalNamed "math/bits.deBruijn64tab" = some 7 := by kernel_rfl
theorem gTabType : (Tryd.prog.globals[7]?).map (·.type) = some 116 := by kernel_rfl
theorem cellsTab : Tryd.prog.cellsOf 116 = 64 := by kernel_rfl
theorem cellsOne : Tryd.prog.cellsOf 5 = 1 := by kernel_rfl
theorem gPow : Tryd.prog.globalNamed "internal/strconv.uint64pow10" = some 2 := by kernel_rfl
theorem gPowType : (Tryd.prog.globals[2]?).map (·.type) = some 95 := by kernel_rfl
theorem cellsPow : Tryd.prog.cellsOf 95 = 20 := by kernel_rfl
theorem cellsU64 : Tryd.prog.cellsOf 67 = 1 := by kernel_rfl
theorem table {W : World} (h : laidMetH Tryd.prog Rows.rateTextsRow.laid W) : Pow W ∧ 8 ≤ W.heap.size := by
  rw [MakeChecks.laidMetH_plain _ _ _ (by kernel_rfl)] at h
  have h1 := h
  have hp : Pow W := Lib.tabIs_of_head (k := .u64) (zs := Lib.pow10Tab) gPow gPowType Tryd.underlying95 Tryd.underlying67 cellsU64 cellsPow h1.tail.tail
  refine ⟨hp, ?_⟩
  have hc := (Lib.tabIs_of_head (k := .u8) (zs := [0, 1, 56, 2, 57, 49, 28, 3, 61, 58, 42, 50, 38, 29, 17, 4, 62, 47, 59, 36, 45, 43, 51, 22, 53, 39, 33, 30, 24, 18, 12, 5, 63, 55, 48, 27, 60, 41, 37, 16, 46, 35, 44, 21, 52, 32, 23, 11, 54, 26, 40, 15, 34, 20, 31, 10, 25, 14, 19, 9, 13, 8, 7, 6]) gTab gTabType Tryd.underlying116 Tryd.underlying5 cellsOne cellsTab h.tail).cell gTab 15 (by decide)
  rcases Nat.lt_or_ge 7 W.heap.size with hl | hl
  · omega
  · simp [World.cell?, Array.getElem?_eq_none hl] at hc
theorem star : "*" ++ "errors.errorString" = "*errors.errorString" := by decide
theorem rowES (u : TypeId) (h : Tryd.prog.typeName? 3 u = some "*errors.errorString") : u = 118 :=
  typeName_ptr_named (nm := "errors.errorString") (by rw [star]; kernel_rfl) (by kernel_rfl) (by decide) u (by rw [star]; exact h)
theorem gSyn : Tryd.prog.globalNamed "strconv.ErrSyntax" = some 4 := by kernel_rfl
theorem gRan : Tryd.prog.globalNamed "strconv.ErrRange" = some 5 := by kernel_rfl
theorem errs {W : World} (h : laidMetH Tryd.prog Rows.rateTextsRow.laid W) : Errs W := by
  rw [MakeChecks.laidMetH_plain _ _ _ (by kernel_rfl)] at h
  have hr := h.tail.tail.tail
  have hy := hr.tail
  refine ⟨?_, ?_⟩
  · obtain ⟨a, x, hv, -, -, -⟩ := laid_sentinel hy gSyn (by kernel_rfl) Tryd.underlying80 rowES Tryd.underlying118 Tryd.underlying120 rfl rfl Tryd.underlying9 (by kernel_rfl) (by kernel_rfl)
    exact ⟨_, by simpa using World.var?_cell gSyn hv 0, .inr ⟨_, _, rfl⟩⟩
  · obtain ⟨a, x, hv, -, -, -⟩ := laid_sentinel hr gRan (by kernel_rfl) Tryd.underlying80 rowES Tryd.underlying118 Tryd.underlying120 rfl rfl Tryd.underlying9 (by kernel_rfl) (by kernel_rfl)
    exact ⟨_, by simpa using World.var?_cell gRan hv 0, .inr ⟨_, _, rfl⟩⟩

noncomputable def laidWorld (os : Os) : World := World.doorLaid Tryd.prog 400 os
theorem laid_met (os : Os) : laidMetH Tryd.prog Rows.rateTextsRow.laid ((laidWorld os).forCall (fun _ _ => 0) ⟨#[], #[.agg #[.string ⟨#[]⟩, .string ⟨#[]⟩, .int .i64 0, .int .i64 0], .string ByteArray.empty], []⟩).memory :=
  laidMetH_of_parts3 (fuel := 8) (laidMet_of_run' 8 (by kernel_rfl) (by kernel_rfl)) (by kernel_rfl) (by kernel_rfl)
theorem reads (os : Os) {H : Type} (enc : TypeId × Value → H) : ∃ places, DataW.whole enc Tryd.prog ((laidWorld os).forCall (fun _ _ => 0) ⟨#[], #[.agg #[.string ⟨#[]⟩, .string ⟨#[]⟩, .int .i64 0, .int .i64 0], .string ByteArray.empty], []⟩).memory Tryd.f8.params.toList Rows.rateTextsSpec.vars false (#[.agg #[.string ⟨#[]⟩, .string ⟨#[]⟩, .int .i64 0, .int .i64 0], .string ByteArray.empty] : Array Value).toList 8 = some ([.agg [.lit (.string []), .lit (.string []), .lit (.int .i64 0), .lit (.int .i64 0)], .lit (.string [])], [], places) :=
  ⟨[], by kernel_rfl⟩
set_option maxRecDepth 100000 in
theorem contract (H : Type) (enc : TypeId × Value → H) (W : World) (base : Nat) (args : Array Value) (ds gs : List (DataW H)) (before : List MemPlace)
    (hval0 : ∀ (j : Nat) t v, Tryd.f8.params[j]? = some t → args[j]? = some v → Value.okWide Tryd.prog W .any base t v)
    (hW : DataW.Whole enc Tryd.prog Tryd.f8.params.toList Rows.rateTextsSpec.vars false W args.toList ds gs before) (hL : laidMetH Tryd.prog Rows.rateTextsRow.laid W) :
    Calls Tryd.prog 8 args W fun e W' => ∃ v, e = .returned v ∧ Rows.rateTextsSpec.post enc Tryd.prog Tryd.f8 false true false false W args v W' := by
  have hval : ∀ (j : Nat) t v, Tryd.f8.params[j]? = some t → args[j]? = some v → Value.okWide Tryd.prog W .any base t v := hval0
  have hW' := hW
  obtain ⟨p, q, hA0, hV, rfl, hfz, hnd⟩ := hW
  have hA : DataW.TrodAll enc Tryd.prog W 0 (fun _ => true) true Tryd.f8.params.toList args.toList ds p := hA0
  rw [Tryd.params8] at hA hval
  obtain ⟨v0, vs0, d0, ds0, p0, q0, hargs, rfl, rfl, h0, r0⟩ := trodAll_cons hA
  obtain ⟨v1, vs1, d1, ds1, p1, q1, rfl, rfl, rfl, h1, r1⟩ := trodAll_cons r0
  obtain ⟨rfl, rfl, rfl⟩ := trodAll_nil r1
  obtain rfl : args = #[v0, v1] := by cases args; simp_all
  obtain ⟨rfl, rfl⟩ := trodVars_none hV
  have k0 := h0
  have lt0 : ∀ x ∈ p0, x.block < W.heap.size := by obtain ⟨m, hm⟩ := k0; exact DataW.trod_lt m _ _ _ hm
  obtain ⟨u0_0, u0_1, u0_2, u0_3, y0_0, y0_1, y0_2, y0_3, m0, rfl, g0_0, g0_1, g0_2, g0_3⟩ := open_agg4 Tryd.underlying23 (by kernel_rfl) (by kernel_rfl) (hval 0 23 v0 rfl rfl) h0
  obtain ⟨f, rfl, w_f⟩ := one_string Tryd.underlying9 g0_0
  obtain ⟨t, rfl, w_t⟩ := one_string Tryd.underlying9 g0_1
  obtain ⟨n, rfl, w_n⟩ := one_int Tryd.underlying2 g0_2
  obtain ⟨d, rfl, w_d⟩ := one_int Tryd.underlying2 g0_3
  have k1 := h1
  have lt1 : ∀ x ∈ p1, x.block < W.heap.size := by obtain ⟨m, hm⟩ := k1; exact DataW.trod_lt m _ _ _ hm
  obtain ⟨a1, rfl, -, -, w1⟩ := open_string Tryd.underlying9 (hval 1 9 v1 rfl rfl) h1
  clear hA0 hval0
  refine (walk f t n d a1 W w_f w_t w_n w_d w1 ⟨table hL, errs hL⟩).mono fun e W' ⟨he, bel⟩ => ?_
  subst he
  exact ⟨_, rfl, _, _, _, [], _, [], hW', trodAll_mk1 (shut_bool Tryd.underlying4 _), (trodAll_cons_mk (Below.trod laidOut (by kernel_rfl) (of_decide_eq_true (by kernel_rfl)) k0 bel lt0) (trodAll_cons_mk (Below.trod laidOut (by kernel_rfl) (of_decide_eq_true (by kernel_rfl)) k1 bel lt1) trodAll_mk0)), rfl, bel.frame _, fun h => by cases h⟩

set_option maxRecDepth 100000 in
theorem lifted (os : Os) (started : os.Started) (H : Type) (enc : TypeId × Value → H) (F : Stop.Interp) :
    ReturnsInHanded {} Tryd.checked os 8 .any ((OpenSpec.ofChange Rows.rateTextsSpec).preRow enc Tryd.prog Tryd.f8 Rows.rateTextsRow.domain false Rows.rateTextsRow.laid) (((OpenSpec.ofChange Rows.rateTextsSpec).at F).post enc Tryd.prog Tryd.f8 false true false false) := by
  obtain ⟨places, hx⟩ := reads os enc
  refine returnsInHanded_of_row (C := Tryd.checked) (s := OpenSpec.ofChange Rows.rateTextsSpec) own started (by kernel_rfl) Tryd.func8
    (witness_row_at (enc := enc) (C := Tryd.checked) false (laidWorld os) #[.agg #[.string ⟨#[]⟩, .string ⟨#[]⟩, .int .i64 0, .int .i64 0], .string ByteArray.empty] rfl (by kernel_rfl) (by kernel_rfl) (by kernel_rfl)
      (OpenSpec.preRow_of_cond 8 hx (by kernel_rfl) (fun k hk => by cases hk) (by kernel_rfl) (laid_met os))) ?_
  intro W base args ds gs before hval hW _ _ _ hL _ _
  exact contract H enc W base args ds gs before hval hW hL
theorem said : Rows.RateTextsSaid :=
  OpenClaim.holds_of_cond 8 Tryd.f8 rfl rfl rfl rfl rfl rfl rfl ⟨rfl, rfl, rfl, rfl, rfl⟩ rfl rfl rfl rfl rfl (by kernel_rfl) Tryd.func8 (by kernel_rfl)
    (of_decide_eq_true (by kernel_rfl)) (by unfold Func.isWrapper; first | (rw [if_pos (by decide +kernel)]; kernel_rfl) | (rw [if_neg (by decide +kernel)]; exact ⟨rfl, rfl⟩))
    (fun os started H enc _ F => by rw [OpenClaim.pre_eq_preRow]; exact lifted os started H enc F)
/-- No parameter wants a stand-in; the program's own looks are off. -/
theorem plain (f : FuncId) (fn : Func) (hf : Tryd.pinned.checked.prog.funcNamed "cardnet/cardnetlaw02.RateTexts" = some f) (hfn : Tryd.pinned.checked.prog.funcs[f]? = some fn) :
    true = Tryd.pinned.checked.prog.looks [] ∧ ∀ (j : Nat) t, fn.params[j]? = some t → Tryd.pinned.checked.prog.wantsStandIn t = false := by
  obtain rfl : f = 8 := Option.some.inj ((show Tryd.prog.funcNamed "cardnet/cardnetlaw02.RateTexts" = some 8 by kernel_rfl).symm.trans hf) |>.symm
  obtain rfl : fn = Tryd.f8 := (Option.some.inj (Tryd.func8.symm.trans hfn)).symm
  refine ⟨by kernel_rfl, fun j t ht => ?_⟩
  rw [Tryd.params8] at ht
  have hm : t ∈ [23, 9] := by simpa using Array.mem_of_getElem? ht
  have hall : ([23, 9].all fun u => !Tryd.prog.wantsStandIn u) = true := by kernel_rfl
  exact (show Tryd.prog.wantsStandIn t = false by simpa using List.all_eq_true.1 hall t hm)
/-- THE CARD: the statement. -/
theorem proved : Rows.RateTextsCardSaid :=
  Claim7.holds_tied_plain_at .later [] _ _ _ _ said (fun _ h => by cases h) (by kernel_rfl) (fun _ h => by cases h) rateTexts_row_tie rfl ⟨rfl, rfl⟩ (by kernel_rfl) rfl plain (by kernel_rfl)
#print axioms proved
end Go.Proofs.YtobnkfgikafanaaDoor.rateTexts
