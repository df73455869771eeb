/-
  PROVED: for all amounts and numbers, the law MoneyOrder returns true: Sub undoes Add, Cmp agrees with the sign of a difference, and scaling by num / num changes nothing; the card ties the listed tables to the program's text. Conditions: none besides the form's own reach.
-/
import Derived.Test.YtompkkanckejjaaDoorCards
import Derived.Test.YtompkkanckejjaaDoorTie
import Derived.WalkKit
import Derived.ProofKit
import Derived.OpenShut
import Derived.ShutString
import Derived.ChangeOld
import Derived.Below
import Derived.Deep.DeepHandedRow
import Derived.Lib.LaidTab
import Derived.LaidMore
import Derived.Stop.LaidErr
import Derived.Stop.Joined
import Derived.LaidHandle
import Derived.ChangeSlices
import Derived.SliceStrings
import Derived.Deep.RegionHeld3
import Derived.Test.YtompkkanckejjaaDoorROpen
import Derived.Test.YtompkkanckejjaaDoorM13
namespace Go.Proofs.YtompkkanckejjaaDoor.moneyOrder
open Go.ChangeShapes Go.WideShapes Go.ChangeAt Go.RowKit
open Go.ChangeMaps (open_string shut_string)
set_option linter.unusedVariables false
theorem i64_in {x : Int} (h : (Lit.int .i64 x).wf = true) : -9223372036854775808 ≤ x ∧ x ≤ 9223372036854775807 := by
  simp [Lit.wf, IntKind.min, IntKind.max, IntKind.signed, IntKind.bits] at h
  exact ⟨by omega, by omega⟩
theorem scale_same (m : Int) (c : ByteArray) (num mode : Int) (hc : c.size ≤ 9223372036854775807) (hm : mchkR m c = 0) (q1 : ¬ num < 1) (q2 : ¬ 1099511627776 < num) (M0 : 1 ≤ mode) (M1 : mode ≤ 4) (w : World) :
    Calls Tryd.prog 19 #[.agg #[.int .i64 m, .string c], .int .i64 num, .int .i64 num, .int .i64 mode] w fun x w' => x = .returned (.tuple #[.agg #[.int .i64 m, .string c], .int .i64 0]) ∧ Pushed w w' := by
  obtain ⟨-, hlo, hhi⟩ := mchk_curP hm
  obtain ⟨D, rfl⟩ := Int.eq_ofNat_of_zero_le (show 0 ≤ num by omega)
  have hu : upB m.natAbs 0 D mode = false := by
    have h1 : ¬ D ≤ 0 := by omega
    have h2 : ¬ 0 = D := by omega
    unfold upB
    split
    · simp
    · split
      · simp; omega
      · split
        · simp; omega
        · rfl
  by_cases hs : m < 0
  · exact scale_val m c D D mode hc hm (by omega) (by omega) (by omega) (by omega) M0 M1 m.natAbs 0 (by rw [Int.natAbs_natCast, Nat.add_zero]) (by omega) false true (by omega) (by simp) hu (by rw [decide_eq_true hs, decide_eq_false (by omega)]; rfl) m (by simp; omega) w
  · exact scale_val m c D D mode hc hm (by omega) (by omega) (by omega) (by omega) M0 M1 m.natAbs 0 (by rw [Int.natAbs_natCast, Nat.add_zero]) (by omega) false false (by omega) (by simp) hu (by rw [decide_eq_false hs, decide_eq_false (by omega)]; rfl) m (by simp; omega) w
theorem pair_zero {a : Int} {c : ByteArray} {b : Int} (h1 : mchkR a c = 0) (h2 : mchkR b c = 0) : pairR a c b c = 0 := by rw [pairR, if_pos h1, if_pos h2, if_pos rfl]
set_option maxRecDepth 20000 in
set_option maxHeartbeats 25600000 in
theorem walk (a : Int) (c : ByteArray) (b : Int) (d : ByteArray) (num : Int) (w : World) (wa : (Lit.int .i64 a).wf = true) (hc : c.size ≤ maxLen) (wb : (Lit.int .i64 b).wf = true) (hd : d.size ≤ maxLen) (wn : (Lit.int .i64 num).wf = true) (hT : ExpT w ∧ Pow w ∧ 6 ≤ w.heap.size) :
    Calls Tryd.prog 9 #[.agg #[.int .i64 a, .string c], .agg #[.int .i64 b, .string d], .int .i64 num] w fun x w' => x = .returned (.bool true) ∧ Below w.heap.size w w' := by
  obtain ⟨hE, hP, hw⟩ := hT
  have AW : Hid (∀ w', Below w.heap.size w w' → Calls Tryd.prog 18 #[] w' fun e w'' => e = .returned (.bool true) ∧ Below w.heap.size w w'') := Lib.hid fun w' hb => (awake_any w' (hE.later hb hw) (hP.later hb hw) (Nat.le_trans hw hb.size)).mono fun e w'' h => ⟨h.1, hb.trans (h.2.mono hb.size)⟩
  clear hE hP hw
  obtain ⟨e1, he1⟩ : ∃ e, mchkR a c = e := ⟨_, rfl⟩
  obtain ⟨e2, he2⟩ : ∃ e, mchkR b d = e := ⟨_, rfl⟩
  have K1 := Lib.hid (fun w => mchk_any a c hc (Lib.hid he1) w)
  have K2 := Lib.hid (fun w => mchk_any b d hd (Lib.hid he2) w)
  by_cases h1 : e1 = 0
  case neg =>
    have g1 := ne_b h1
    clear h1 he1 he2 K2 hc hd wa wb wn
    go_enter Tryd.func9, Tryd.ntmps9
    go_wp2_with fail
    with_reducible refine (K1.out _).mono ?_
    rintro x w1 ⟨rfl, l1, n1, rfl⟩
    go_wp2_with fail
    refine (AW.out _ (Pushed.below (by repeat (first | with_reducible exact Pushed.refl _ | with_reducible refine Pushed.push ?_ _ | with_reducible refine Pushed.alloc ?_ _ | with_reducible refine Pushed.drewN ?_ _ | with_reducible refine Pushed.drew ?_)))).mono ?_
    rintro x w2 ⟨rfl, hb2⟩
    go_wp2
    go_ret
    exact ⟨rfl, hb2⟩
  subst h1
  by_cases h2 : e2 = 0
  case neg =>
    have g1 := ne_b h2
    clear h2 he1 he2 hc hd wa wb wn
    go_enter Tryd.func9, Tryd.ntmps9
    go_wp2_with fail
    with_reducible refine (K1.out _).mono ?_
    rintro x w1 ⟨rfl, l2, n2, rfl⟩
    go_wp2_with fail
    with_reducible refine (K2.out _).mono ?_
    rintro x w1 ⟨rfl, l3, n3, rfl⟩
    go_wp2_with fail
    refine (AW.out _ (Pushed.below (by repeat (first | with_reducible exact Pushed.refl _ | with_reducible refine Pushed.push ?_ _ | with_reducible refine Pushed.alloc ?_ _ | with_reducible refine Pushed.drewN ?_ _ | with_reducible refine Pushed.drew ?_)))).mono ?_
    rintro x w2 ⟨rfl, hb2⟩
    go_wp2
    go_ret
    exact ⟨rfl, hb2⟩
  subst h2
  by_cases h3 : c = d
  case neg =>
    have g1 := str_ne h3
    clear h3 he1 he2 hc hd wa wb wn
    go_enter Tryd.func9, Tryd.ntmps9
    go_wp2_with fail
    with_reducible refine (K1.out _).mono ?_
    rintro x w1 ⟨rfl, l4, n4, rfl⟩
    go_wp2_with fail
    with_reducible refine (K2.out _).mono ?_
    rintro x w1 ⟨rfl, l5, n5, rfl⟩
    go_wp2_with fail
    refine (AW.out _ (Pushed.below (by repeat (first | with_reducible exact Pushed.refl _ | with_reducible refine Pushed.push ?_ _ | with_reducible refine Pushed.alloc ?_ _ | with_reducible refine Pushed.drewN ?_ _ | with_reducible refine Pushed.drew ?_)))).mono ?_
    rintro x w2 ⟨rfl, hb2⟩
    go_wp2
    go_ret
    exact ⟨rfl, hb2⟩
  subst h3
  obtain ⟨hcur, alo, ahi⟩ := mchk_curP he1
  obtain ⟨-, blo, bhi⟩ := mchk_curP he2
  have SC : Hid (¬ num < 1 → ¬ 1099511627776 < num → Hid (∀ mode, 1 ≤ mode → mode ≤ 4 → ∀ w, Calls Tryd.prog 19 #[.agg #[.int .i64 a, .string c], .int .i64 num, .int .i64 num, .int .i64 mode] w fun x w' => x = .returned (.tuple #[.agg #[.int .i64 a, .string c], .int .i64 0]) ∧ Pushed w w')) := Lib.hid fun q1 q2 => Lib.hid fun mode M0 M1 w => scale_same a c num mode hc he1 q1 q2 M0 M1 w
  have P1 := Lib.hid (pair_zero he1 he2)
  have P2 := Lib.hid (pair_zero he2 he1)
  have AD : Hid ((-4503599627370496 ≤ a + b ∧ a + b ≤ 4503599627370496) → Hid ((∀ w, Calls Tryd.prog 10 #[.agg #[.int .i64 a, .string c], .agg #[.int .i64 b, .string c]] w fun x w' => x = .returned (.tuple #[.agg #[.int .i64 (a + b), .string c], .int .i64 0]) ∧ Pushed w w') ∧ ∀ w, Calls Tryd.prog 12 #[.agg #[.int .i64 (a + b), .string c], .agg #[.int .i64 b, .string c]] w fun x w' => x = .returned (.tuple #[.agg #[.int .i64 a, .string c], .int .i64 0]) ∧ Pushed w w')) := Lib.hid fun hs => Lib.hid ⟨fun w => add_ok a c b c hc hc ⟨hcur, alo, ahi, blo, bhi⟩ P1 hs w, fun w => by
    have h := sub_ok (a + b) c b c hc hc ⟨hcur, hs.1, hs.2, blo, bhi⟩ (Lib.hid (pair_zero (mchk_fit hcur hs) he2)) (by omega) w
    rw [Int.add_sub_cancel] at h
    exact h⟩
  have AE : Hid (¬ (-4503599627370496 ≤ a + b ∧ a + b ≤ 4503599627370496) → Hid (∀ w, Calls Tryd.prog 10 #[.agg #[.int .i64 a, .string c], .agg #[.int .i64 b, .string c]] w fun x w' => x = .returned (.tuple #[.agg #[.int .i64 0, .string ⟨#[]⟩], .int .i64 4]) ∧ Pushed w w')) := Lib.hid fun hs => Lib.hid fun w => add_big a c b c hc hc ⟨hcur, alo, ahi, blo, bhi⟩ P1 hs w
  by_cases o1 : a < b
  case pos =>
    have o2 : ¬ b < a := by omega
    have o3 : (a == b) = false := by simp; omega
    have o4 : ¬ a = b := by omega
    have C1 := Lib.hid (fun w => cmp_ok a c b c hc hc P1 (Lib.hid (show cmpR a b = (-1) by rw [cmpR, if_pos o1])) w)
    have C2 := Lib.hid (fun w => cmp_ok b c a c hc hc P2 (Lib.hid (show cmpR b a = 1 by rw [cmpR, if_neg o2, if_pos o1])) w)
    by_cases hs : -4503599627370496 ≤ a + b ∧ a + b ≤ 4503599627370496
    · obtain ⟨A1', S1'⟩ := (AD.out hs).out
      have A1 := Lib.hid A1'
      have S1 := Lib.hid S1'
      clear A1' S1' AD AE he1 he2 hc hd wa wb wn P1 P2 hcur
      go_enter Tryd.func9, Tryd.ntmps9
      go_wp2_with fail
      with_reducible refine (K1.out _).mono ?_
      rintro x w1 ⟨rfl, l6, n6, rfl⟩
      go_wp2_with fail
      with_reducible refine (K2.out _).mono ?_
      rintro x w1 ⟨rfl, l7, n7, rfl⟩
      go_wp2_with fail
      with_reducible refine (C1.out _).mono ?_
      rintro x w1 ⟨rfl, l8, n8, rfl⟩
      go_wp2_with fail
      with_reducible refine (C2.out _).mono ?_
      rintro x w1 ⟨rfl, l9, n9, rfl⟩
      go_wp2_with fail
      with_reducible refine (A1.out _).mono ?_
      rintro x w1 ⟨rfl, l10, n10, rfl⟩
      go_wp2_with fail
      with_reducible refine (S1.out _).mono ?_
      rintro x w1 ⟨rfl, l11, n11, rfl⟩
      by_cases q1 : num < 1
      · clear SC
        go_wp2_with fail
        refine (AW.out _ (Pushed.below (by repeat (first | with_reducible exact Pushed.refl _ | with_reducible refine Pushed.push ?_ _ | with_reducible refine Pushed.alloc ?_ _ | with_reducible refine Pushed.drewN ?_ _ | with_reducible refine Pushed.drew ?_)))).mono ?_
        rintro x w2 ⟨rfl, hb2⟩
        go_wp2
        go_ret
        exact ⟨rfl, hb2⟩
      by_cases q2 : 1099511627776 < num
      · clear SC
        go_wp2_with fail
        refine (AW.out _ (Pushed.below (by repeat (first | with_reducible exact Pushed.refl _ | with_reducible refine Pushed.push ?_ _ | with_reducible refine Pushed.alloc ?_ _ | with_reducible refine Pushed.drewN ?_ _ | with_reducible refine Pushed.drew ?_)))).mono ?_
        rintro x w2 ⟨rfl, hb2⟩
        go_wp2
        go_ret
        exact ⟨rfl, hb2⟩
      have SC1 := SC.out (by omega) (by omega)
      clear SC
      go_wp2
      refine world_var (P := fun V => Code.wp _ _ _ _ V) (fun V => Below w.heap.size w V ∧ w.heap.size < V.heap.size ∧ V.cell? ⟨w.heap.size, 0, none⟩ = some (.int .i64 a) ∧ V.cell? ⟨w.heap.size, 1, none⟩ = some (.string c)) ⟨Pushed.below (by repeat (first | with_reducible exact Pushed.refl _ | with_reducible refine Pushed.push ?_ _ | with_reducible refine Pushed.alloc ?_ _ | with_reducible refine Pushed.drewN ?_ _ | with_reducible refine Pushed.drew ?_)), by simp [size_push]; omega, by go_simp, by go_simp⟩ ?_
      rintro V ⟨hBV, z0, d0, d1⟩
      have HBV := Lib.hid hBV
      clear hBV
      have z1 : ∀ x : Nat, w.heap.size < V.heap.size + x := by intros; omega
      have z2 : ∀ x : Nat, w.heap.size < V.heap.size + x + 1 := by intros; omega
      have z3 : ∀ x y : Nat, w.heap.size < V.heap.size + x + 1 + y := by intros; omega
      have z4 : ∀ x y : Nat, w.heap.size < V.heap.size + x + 1 + y + 1 := by intros; omega
      have z5 : ∀ x y z : Nat, w.heap.size < V.heap.size + x + 1 + y + 1 + z := by intros; omega
      have z6 : ∀ x y z : Nat, w.heap.size < V.heap.size + x + 1 + y + 1 + z + 1 := by intros; omega
      have z7 : ∀ x y z u : Nat, w.heap.size < V.heap.size + x + 1 + y + 1 + z + 1 + u := by intros; omega
      have z8 : ∀ x y z u : Nat, w.heap.size < V.heap.size + x + 1 + y + 1 + z + 1 + u + 1 := by intros; omega
      refine wp_loop_rounds 5 ?_
      rw [rounds_succ]
      go_wp2_with fail
      with_reducible refine (SC1.out 1 (by decide) (by decide) _).mono ?_
      rintro x w1 ⟨rfl, l12, n12, rfl⟩
      go_wp2
      rw [rounds_succ]
      go_wp2_with fail
      with_reducible refine (SC1.out 2 (by decide) (by decide) _).mono ?_
      rintro x w1 ⟨rfl, l13, n13, rfl⟩
      go_wp2
      rw [rounds_succ]
      go_wp2_with fail
      with_reducible refine (SC1.out 3 (by decide) (by decide) _).mono ?_
      rintro x w1 ⟨rfl, l14, n14, rfl⟩
      go_wp2
      rw [rounds_succ]
      go_wp2_with fail
      with_reducible refine (SC1.out 4 (by decide) (by decide) _).mono ?_
      rintro x w1 ⟨rfl, l15, n15, rfl⟩
      go_wp2
      rw [rounds_succ]
      go_wp2_with fail
      refine (AW.out _ (HBV.out.trans ((Pushed.below (w := V) (by repeat (first | with_reducible exact Pushed.refl _ | with_reducible refine Pushed.push ?_ _ | with_reducible refine Pushed.alloc ?_ _ | with_reducible refine Pushed.drewN ?_ _ | with_reducible refine Pushed.drew ?_))).mono HBV.out.size))).mono ?_
      rintro x w2 ⟨rfl, hb2⟩
      go_wp2
      go_ret
      exact ⟨rfl, hb2⟩
    · have A1 := (AE.out hs).out
      replace A1 := Lib.hid A1
      clear AD AE he1 he2 hc hd wa wb wn P1 P2 hcur hs
      go_enter Tryd.func9, Tryd.ntmps9
      go_wp2_with fail
      with_reducible refine (K1.out _).mono ?_
      rintro x w1 ⟨rfl, l16, n16, rfl⟩
      go_wp2_with fail
      with_reducible refine (K2.out _).mono ?_
      rintro x w1 ⟨rfl, l17, n17, rfl⟩
      go_wp2_with fail
      with_reducible refine (C1.out _).mono ?_
      rintro x w1 ⟨rfl, l18, n18, rfl⟩
      go_wp2_with fail
      with_reducible refine (C2.out _).mono ?_
      rintro x w1 ⟨rfl, l19, n19, rfl⟩
      go_wp2_with fail
      with_reducible refine (A1.out _).mono ?_
      rintro x w1 ⟨rfl, l20, n20, rfl⟩
      by_cases q1 : num < 1
      · clear SC
        go_wp2_with fail
        refine (AW.out _ (Pushed.below (by repeat (first | with_reducible exact Pushed.refl _ | with_reducible refine Pushed.push ?_ _ | with_reducible refine Pushed.alloc ?_ _ | with_reducible refine Pushed.drewN ?_ _ | with_reducible refine Pushed.drew ?_)))).mono ?_
        rintro x w2 ⟨rfl, hb2⟩
        go_wp2
        go_ret
        exact ⟨rfl, hb2⟩
      by_cases q2 : 1099511627776 < num
      · clear SC
        go_wp2_with fail
        refine (AW.out _ (Pushed.below (by repeat (first | with_reducible exact Pushed.refl _ | with_reducible refine Pushed.push ?_ _ | with_reducible refine Pushed.alloc ?_ _ | with_reducible refine Pushed.drewN ?_ _ | with_reducible refine Pushed.drew ?_)))).mono ?_
        rintro x w2 ⟨rfl, hb2⟩
        go_wp2
        go_ret
        exact ⟨rfl, hb2⟩
      have SC1 := SC.out (by omega) (by omega)
      clear SC
      go_wp2
      refine world_var (P := fun V => Code.wp _ _ _ _ V) (fun V => Below w.heap.size w V ∧ w.heap.size < V.heap.size ∧ V.cell? ⟨w.heap.size, 0, none⟩ = some (.int .i64 a) ∧ V.cell? ⟨w.heap.size, 1, none⟩ = some (.string c)) ⟨Pushed.below (by repeat (first | with_reducible exact Pushed.refl _ | with_reducible refine Pushed.push ?_ _ | with_reducible refine Pushed.alloc ?_ _ | with_reducible refine Pushed.drewN ?_ _ | with_reducible refine Pushed.drew ?_)), by simp [size_push]; omega, by go_simp, by go_simp⟩ ?_
      rintro V ⟨hBV, z0, d0, d1⟩
      have HBV := Lib.hid hBV
      clear hBV
      have z1 : ∀ x : Nat, w.heap.size < V.heap.size + x := by intros; omega
      have z2 : ∀ x : Nat, w.heap.size < V.heap.size + x + 1 := by intros; omega
      have z3 : ∀ x y : Nat, w.heap.size < V.heap.size + x + 1 + y := by intros; omega
      have z4 : ∀ x y : Nat, w.heap.size < V.heap.size + x + 1 + y + 1 := by intros; omega
      have z5 : ∀ x y z : Nat, w.heap.size < V.heap.size + x + 1 + y + 1 + z := by intros; omega
      have z6 : ∀ x y z : Nat, w.heap.size < V.heap.size + x + 1 + y + 1 + z + 1 := by intros; omega
      have z7 : ∀ x y z u : Nat, w.heap.size < V.heap.size + x + 1 + y + 1 + z + 1 + u := by intros; omega
      have z8 : ∀ x y z u : Nat, w.heap.size < V.heap.size + x + 1 + y + 1 + z + 1 + u + 1 := by intros; omega
      refine wp_loop_rounds 5 ?_
      rw [rounds_succ]
      go_wp2_with fail
      with_reducible refine (SC1.out 1 (by decide) (by decide) _).mono ?_
      rintro x w1 ⟨rfl, l21, n21, rfl⟩
      go_wp2
      rw [rounds_succ]
      go_wp2_with fail
      with_reducible refine (SC1.out 2 (by decide) (by decide) _).mono ?_
      rintro x w1 ⟨rfl, l22, n22, rfl⟩
      go_wp2
      rw [rounds_succ]
      go_wp2_with fail
      with_reducible refine (SC1.out 3 (by decide) (by decide) _).mono ?_
      rintro x w1 ⟨rfl, l23, n23, rfl⟩
      go_wp2
      rw [rounds_succ]
      go_wp2_with fail
      with_reducible refine (SC1.out 4 (by decide) (by decide) _).mono ?_
      rintro x w1 ⟨rfl, l24, n24, rfl⟩
      go_wp2
      rw [rounds_succ]
      go_wp2_with fail
      refine (AW.out _ (HBV.out.trans ((Pushed.below (w := V) (by repeat (first | with_reducible exact Pushed.refl _ | with_reducible refine Pushed.push ?_ _ | with_reducible refine Pushed.alloc ?_ _ | with_reducible refine Pushed.drewN ?_ _ | with_reducible refine Pushed.drew ?_))).mono HBV.out.size))).mono ?_
      rintro x w2 ⟨rfl, hb2⟩
      go_wp2
      go_ret
      exact ⟨rfl, hb2⟩
  clear K1
  have K1 := Lib.hid (fun w => mchk_any a c hc (Lib.hid he1) w)
  by_cases o2 : b < a
  case pos =>
    have o3 : (a == b) = false := by simp; omega
    have o4 : ¬ a = b := by omega
    have C1 := Lib.hid (fun w => cmp_ok a c b c hc hc P1 (Lib.hid (show cmpR a b = 1 by rw [cmpR, if_neg o1, if_pos o2])) w)
    have C2 := Lib.hid (fun w => cmp_ok b c a c hc hc P2 (Lib.hid (show cmpR b a = (-1) by rw [cmpR, if_pos o2])) w)
    by_cases hs : -4503599627370496 ≤ a + b ∧ a + b ≤ 4503599627370496
    · obtain ⟨A1', S1'⟩ := (AD.out hs).out
      have A1 := Lib.hid A1'
      have S1 := Lib.hid S1'
      clear A1' S1' AD AE he1 he2 hc hd wa wb wn P1 P2 hcur
      go_enter Tryd.func9, Tryd.ntmps9
      go_wp2_with fail
      with_reducible refine (K1.out _).mono ?_
      rintro x w1 ⟨rfl, l25, n25, rfl⟩
      go_wp2_with fail
      with_reducible refine (K2.out _).mono ?_
      rintro x w1 ⟨rfl, l26, n26, rfl⟩
      go_wp2_with fail
      with_reducible refine (C1.out _).mono ?_
      rintro x w1 ⟨rfl, l27, n27, rfl⟩
      go_wp2_with fail
      with_reducible refine (C2.out _).mono ?_
      rintro x w1 ⟨rfl, l28, n28, rfl⟩
      go_wp2_with fail
      with_reducible refine (A1.out _).mono ?_
      rintro x w1 ⟨rfl, l29, n29, rfl⟩
      go_wp2_with fail
      with_reducible refine (S1.out _).mono ?_
      rintro x w1 ⟨rfl, l30, n30, rfl⟩
      by_cases q1 : num < 1
      · clear SC
        go_wp2_with fail
        refine (AW.out _ (Pushed.below (by repeat (first | with_reducible exact Pushed.refl _ | with_reducible refine Pushed.push ?_ _ | with_reducible refine Pushed.alloc ?_ _ | with_reducible refine Pushed.drewN ?_ _ | with_reducible refine Pushed.drew ?_)))).mono ?_
        rintro x w2 ⟨rfl, hb2⟩
        go_wp2
        go_ret
        exact ⟨rfl, hb2⟩
      by_cases q2 : 1099511627776 < num
      · clear SC
        go_wp2_with fail
        refine (AW.out _ (Pushed.below (by repeat (first | with_reducible exact Pushed.refl _ | with_reducible refine Pushed.push ?_ _ | with_reducible refine Pushed.alloc ?_ _ | with_reducible refine Pushed.drewN ?_ _ | with_reducible refine Pushed.drew ?_)))).mono ?_
        rintro x w2 ⟨rfl, hb2⟩
        go_wp2
        go_ret
        exact ⟨rfl, hb2⟩
      have SC1 := SC.out (by omega) (by omega)
      clear SC
      go_wp2
      refine world_var (P := fun V => Code.wp _ _ _ _ V) (fun V => Below w.heap.size w V ∧ w.heap.size < V.heap.size ∧ V.cell? ⟨w.heap.size, 0, none⟩ = some (.int .i64 a) ∧ V.cell? ⟨w.heap.size, 1, none⟩ = some (.string c)) ⟨Pushed.below (by repeat (first | with_reducible exact Pushed.refl _ | with_reducible refine Pushed.push ?_ _ | with_reducible refine Pushed.alloc ?_ _ | with_reducible refine Pushed.drewN ?_ _ | with_reducible refine Pushed.drew ?_)), by simp [size_push]; omega, by go_simp, by go_simp⟩ ?_
      rintro V ⟨hBV, z0, d0, d1⟩
      have HBV := Lib.hid hBV
      clear hBV
      have z1 : ∀ x : Nat, w.heap.size < V.heap.size + x := by intros; omega
      have z2 : ∀ x : Nat, w.heap.size < V.heap.size + x + 1 := by intros; omega
      have z3 : ∀ x y : Nat, w.heap.size < V.heap.size + x + 1 + y := by intros; omega
      have z4 : ∀ x y : Nat, w.heap.size < V.heap.size + x + 1 + y + 1 := by intros; omega
      have z5 : ∀ x y z : Nat, w.heap.size < V.heap.size + x + 1 + y + 1 + z := by intros; omega
      have z6 : ∀ x y z : Nat, w.heap.size < V.heap.size + x + 1 + y + 1 + z + 1 := by intros; omega
      have z7 : ∀ x y z u : Nat, w.heap.size < V.heap.size + x + 1 + y + 1 + z + 1 + u := by intros; omega
      have z8 : ∀ x y z u : Nat, w.heap.size < V.heap.size + x + 1 + y + 1 + z + 1 + u + 1 := by intros; omega
      refine wp_loop_rounds 5 ?_
      rw [rounds_succ]
      go_wp2_with fail
      with_reducible refine (SC1.out 1 (by decide) (by decide) _).mono ?_
      rintro x w1 ⟨rfl, l31, n31, rfl⟩
      go_wp2
      rw [rounds_succ]
      go_wp2_with fail
      with_reducible refine (SC1.out 2 (by decide) (by decide) _).mono ?_
      rintro x w1 ⟨rfl, l32, n32, rfl⟩
      go_wp2
      rw [rounds_succ]
      go_wp2_with fail
      with_reducible refine (SC1.out 3 (by decide) (by decide) _).mono ?_
      rintro x w1 ⟨rfl, l33, n33, rfl⟩
      go_wp2
      rw [rounds_succ]
      go_wp2_with fail
      with_reducible refine (SC1.out 4 (by decide) (by decide) _).mono ?_
      rintro x w1 ⟨rfl, l34, n34, rfl⟩
      go_wp2
      rw [rounds_succ]
      go_wp2_with fail
      refine (AW.out _ (HBV.out.trans ((Pushed.below (w := V) (by repeat (first | with_reducible exact Pushed.refl _ | with_reducible refine Pushed.push ?_ _ | with_reducible refine Pushed.alloc ?_ _ | with_reducible refine Pushed.drewN ?_ _ | with_reducible refine Pushed.drew ?_))).mono HBV.out.size))).mono ?_
      rintro x w2 ⟨rfl, hb2⟩
      go_wp2
      go_ret
      exact ⟨rfl, hb2⟩
    · have A1 := (AE.out hs).out
      replace A1 := Lib.hid A1
      clear AD AE he1 he2 hc hd wa wb wn P1 P2 hcur hs
      go_enter Tryd.func9, Tryd.ntmps9
      go_wp2_with fail
      with_reducible refine (K1.out _).mono ?_
      rintro x w1 ⟨rfl, l35, n35, rfl⟩
      go_wp2_with fail
      with_reducible refine (K2.out _).mono ?_
      rintro x w1 ⟨rfl, l36, n36, rfl⟩
      go_wp2_with fail
      with_reducible refine (C1.out _).mono ?_
      rintro x w1 ⟨rfl, l37, n37, rfl⟩
      go_wp2_with fail
      with_reducible refine (C2.out _).mono ?_
      rintro x w1 ⟨rfl, l38, n38, rfl⟩
      go_wp2_with fail
      with_reducible refine (A1.out _).mono ?_
      rintro x w1 ⟨rfl, l39, n39, rfl⟩
      by_cases q1 : num < 1
      · clear SC
        go_wp2_with fail
        refine (AW.out _ (Pushed.below (by repeat (first | with_reducible exact Pushed.refl _ | with_reducible refine Pushed.push ?_ _ | with_reducible refine Pushed.alloc ?_ _ | with_reducible refine Pushed.drewN ?_ _ | with_reducible refine Pushed.drew ?_)))).mono ?_
        rintro x w2 ⟨rfl, hb2⟩
        go_wp2
        go_ret
        exact ⟨rfl, hb2⟩
      by_cases q2 : 1099511627776 < num
      · clear SC
        go_wp2_with fail
        refine (AW.out _ (Pushed.below (by repeat (first | with_reducible exact Pushed.refl _ | with_reducible refine Pushed.push ?_ _ | with_reducible refine Pushed.alloc ?_ _ | with_reducible refine Pushed.drewN ?_ _ | with_reducible refine Pushed.drew ?_)))).mono ?_
        rintro x w2 ⟨rfl, hb2⟩
        go_wp2
        go_ret
        exact ⟨rfl, hb2⟩
      have SC1 := SC.out (by omega) (by omega)
      clear SC
      go_wp2
      refine world_var (P := fun V => Code.wp _ _ _ _ V) (fun V => Below w.heap.size w V ∧ w.heap.size < V.heap.size ∧ V.cell? ⟨w.heap.size, 0, none⟩ = some (.int .i64 a) ∧ V.cell? ⟨w.heap.size, 1, none⟩ = some (.string c)) ⟨Pushed.below (by repeat (first | with_reducible exact Pushed.refl _ | with_reducible refine Pushed.push ?_ _ | with_reducible refine Pushed.alloc ?_ _ | with_reducible refine Pushed.drewN ?_ _ | with_reducible refine Pushed.drew ?_)), by simp [size_push]; omega, by go_simp, by go_simp⟩ ?_
      rintro V ⟨hBV, z0, d0, d1⟩
      have HBV := Lib.hid hBV
      clear hBV
      have z1 : ∀ x : Nat, w.heap.size < V.heap.size + x := by intros; omega
      have z2 : ∀ x : Nat, w.heap.size < V.heap.size + x + 1 := by intros; omega
      have z3 : ∀ x y : Nat, w.heap.size < V.heap.size + x + 1 + y := by intros; omega
      have z4 : ∀ x y : Nat, w.heap.size < V.heap.size + x + 1 + y + 1 := by intros; omega
      have z5 : ∀ x y z : Nat, w.heap.size < V.heap.size + x + 1 + y + 1 + z := by intros; omega
      have z6 : ∀ x y z : Nat, w.heap.size < V.heap.size + x + 1 + y + 1 + z + 1 := by intros; omega
      have z7 : ∀ x y z u : Nat, w.heap.size < V.heap.size + x + 1 + y + 1 + z + 1 + u := by intros; omega
      have z8 : ∀ x y z u : Nat, w.heap.size < V.heap.size + x + 1 + y + 1 + z + 1 + u + 1 := by intros; omega
      refine wp_loop_rounds 5 ?_
      rw [rounds_succ]
      go_wp2_with fail
      with_reducible refine (SC1.out 1 (by decide) (by decide) _).mono ?_
      rintro x w1 ⟨rfl, l40, n40, rfl⟩
      go_wp2
      rw [rounds_succ]
      go_wp2_with fail
      with_reducible refine (SC1.out 2 (by decide) (by decide) _).mono ?_
      rintro x w1 ⟨rfl, l41, n41, rfl⟩
      go_wp2
      rw [rounds_succ]
      go_wp2_with fail
      with_reducible refine (SC1.out 3 (by decide) (by decide) _).mono ?_
      rintro x w1 ⟨rfl, l42, n42, rfl⟩
      go_wp2
      rw [rounds_succ]
      go_wp2_with fail
      with_reducible refine (SC1.out 4 (by decide) (by decide) _).mono ?_
      rintro x w1 ⟨rfl, l43, n43, rfl⟩
      go_wp2
      rw [rounds_succ]
      go_wp2_with fail
      refine (AW.out _ (HBV.out.trans ((Pushed.below (w := V) (by repeat (first | with_reducible exact Pushed.refl _ | with_reducible refine Pushed.push ?_ _ | with_reducible refine Pushed.alloc ?_ _ | with_reducible refine Pushed.drewN ?_ _ | with_reducible refine Pushed.drew ?_))).mono HBV.out.size))).mono ?_
      rintro x w2 ⟨rfl, hb2⟩
      go_wp2
      go_ret
      exact ⟨rfl, hb2⟩
  obtain rfl : a = b := by omega
  have C1 := Lib.hid (fun w => cmp_ok a c a c hc hc P1 (Lib.hid (show cmpR a a = 0 by rw [cmpR, if_neg o1, if_neg o1])) w)
  have C2 := Lib.hid (fun w => cmp_ok a c a c hc hc P2 (Lib.hid (show cmpR a a = 0 by rw [cmpR, if_neg o1, if_neg o1])) w)
  by_cases hs : -4503599627370496 ≤ a + a ∧ a + a ≤ 4503599627370496
  · obtain ⟨A1', S1'⟩ := (AD.out hs).out
    have A1 := Lib.hid A1'
    have S1 := Lib.hid S1'
    clear A1' S1' AD AE he1 he2 hc hd wa wb wn P1 P2 hcur
    go_enter Tryd.func9, Tryd.ntmps9
    go_wp2_with fail
    with_reducible refine (K1.out _).mono ?_
    rintro x w1 ⟨rfl, l44, n44, rfl⟩
    go_wp2_with fail
    with_reducible refine (K2.out _).mono ?_
    rintro x w1 ⟨rfl, l45, n45, rfl⟩
    go_wp2_with fail
    with_reducible refine (C1.out _).mono ?_
    rintro x w1 ⟨rfl, l46, n46, rfl⟩
    go_wp2_with fail
    with_reducible refine (C2.out _).mono ?_
    rintro x w1 ⟨rfl, l47, n47, rfl⟩
    go_wp2_with fail
    with_reducible refine (A1.out _).mono ?_
    rintro x w1 ⟨rfl, l48, n48, rfl⟩
    go_wp2_with fail
    with_reducible refine (S1.out _).mono ?_
    rintro x w1 ⟨rfl, l49, n49, rfl⟩
    by_cases q1 : num < 1
    · clear SC
      go_wp2_with fail
      refine (AW.out _ (Pushed.below (by repeat (first | with_reducible exact Pushed.refl _ | with_reducible refine Pushed.push ?_ _ | with_reducible refine Pushed.alloc ?_ _ | with_reducible refine Pushed.drewN ?_ _ | with_reducible refine Pushed.drew ?_)))).mono ?_
      rintro x w2 ⟨rfl, hb2⟩
      go_wp2
      go_ret
      exact ⟨rfl, hb2⟩
    by_cases q2 : 1099511627776 < num
    · clear SC
      go_wp2_with fail
      refine (AW.out _ (Pushed.below (by repeat (first | with_reducible exact Pushed.refl _ | with_reducible refine Pushed.push ?_ _ | with_reducible refine Pushed.alloc ?_ _ | with_reducible refine Pushed.drewN ?_ _ | with_reducible refine Pushed.drew ?_)))).mono ?_
      rintro x w2 ⟨rfl, hb2⟩
      go_wp2
      go_ret
      exact ⟨rfl, hb2⟩
    have SC1 := SC.out (by omega) (by omega)
    clear SC
    go_wp2
    refine world_var (P := fun V => Code.wp _ _ _ _ V) (fun V => Below w.heap.size w V ∧ w.heap.size < V.heap.size ∧ V.cell? ⟨w.heap.size, 0, none⟩ = some (.int .i64 a) ∧ V.cell? ⟨w.heap.size, 1, none⟩ = some (.string c)) ⟨Pushed.below (by repeat (first | with_reducible exact Pushed.refl _ | with_reducible refine Pushed.push ?_ _ | with_reducible refine Pushed.alloc ?_ _ | with_reducible refine Pushed.drewN ?_ _ | with_reducible refine Pushed.drew ?_)), by simp [size_push]; omega, by go_simp, by go_simp⟩ ?_
    rintro V ⟨hBV, z0, d0, d1⟩
    have HBV := Lib.hid hBV
    clear hBV
    have z1 : ∀ x : Nat, w.heap.size < V.heap.size + x := by intros; omega
    have z2 : ∀ x : Nat, w.heap.size < V.heap.size + x + 1 := by intros; omega
    have z3 : ∀ x y : Nat, w.heap.size < V.heap.size + x + 1 + y := by intros; omega
    have z4 : ∀ x y : Nat, w.heap.size < V.heap.size + x + 1 + y + 1 := by intros; omega
    have z5 : ∀ x y z : Nat, w.heap.size < V.heap.size + x + 1 + y + 1 + z := by intros; omega
    have z6 : ∀ x y z : Nat, w.heap.size < V.heap.size + x + 1 + y + 1 + z + 1 := by intros; omega
    have z7 : ∀ x y z u : Nat, w.heap.size < V.heap.size + x + 1 + y + 1 + z + 1 + u := by intros; omega
    have z8 : ∀ x y z u : Nat, w.heap.size < V.heap.size + x + 1 + y + 1 + z + 1 + u + 1 := by intros; omega
    refine wp_loop_rounds 5 ?_
    rw [rounds_succ]
    go_wp2_with fail
    with_reducible refine (SC1.out 1 (by decide) (by decide) _).mono ?_
    rintro x w1 ⟨rfl, l50, n50, rfl⟩
    go_wp2
    rw [rounds_succ]
    go_wp2_with fail
    with_reducible refine (SC1.out 2 (by decide) (by decide) _).mono ?_
    rintro x w1 ⟨rfl, l51, n51, rfl⟩
    go_wp2
    rw [rounds_succ]
    go_wp2_with fail
    with_reducible refine (SC1.out 3 (by decide) (by decide) _).mono ?_
    rintro x w1 ⟨rfl, l52, n52, rfl⟩
    go_wp2
    rw [rounds_succ]
    go_wp2_with fail
    with_reducible refine (SC1.out 4 (by decide) (by decide) _).mono ?_
    rintro x w1 ⟨rfl, l53, n53, rfl⟩
    go_wp2
    rw [rounds_succ]
    go_wp2_with fail
    refine (AW.out _ (HBV.out.trans ((Pushed.below (w := V) (by repeat (first | with_reducible exact Pushed.refl _ | with_reducible refine Pushed.push ?_ _ | with_reducible refine Pushed.alloc ?_ _ | with_reducible refine Pushed.drewN ?_ _ | with_reducible refine Pushed.drew ?_))).mono HBV.out.size))).mono ?_
    rintro x w2 ⟨rfl, hb2⟩
    go_wp2
    go_ret
    exact ⟨rfl, hb2⟩
  · have A1 := (AE.out hs).out
    replace A1 := Lib.hid A1
    clear AD AE he1 he2 hc hd wa wb wn P1 P2 hcur hs
    go_enter Tryd.func9, Tryd.ntmps9
    go_wp2_with fail
    with_reducible refine (K1.out _).mono ?_
    rintro x w1 ⟨rfl, l54, n54, rfl⟩
    go_wp2_with fail
    with_reducible refine (K2.out _).mono ?_
    rintro x w1 ⟨rfl, l55, n55, rfl⟩
    go_wp2_with fail
    with_reducible refine (C1.out _).mono ?_
    rintro x w1 ⟨rfl, l56, n56, rfl⟩
    go_wp2_with fail
    with_reducible refine (C2.out _).mono ?_
    rintro x w1 ⟨rfl, l57, n57, rfl⟩
    go_wp2_with fail
    with_reducible refine (A1.out _).mono ?_
    rintro x w1 ⟨rfl, l58, n58, rfl⟩
    by_cases q1 : num < 1
    · clear SC
      go_wp2_with fail
      refine (AW.out _ (Pushed.below (by repeat (first | with_reducible exact Pushed.refl _ | with_reducible refine Pushed.push ?_ _ | with_reducible refine Pushed.alloc ?_ _ | with_reducible refine Pushed.drewN ?_ _ | with_reducible refine Pushed.drew ?_)))).mono ?_
      rintro x w2 ⟨rfl, hb2⟩
      go_wp2
      go_ret
      exact ⟨rfl, hb2⟩
    by_cases q2 : 1099511627776 < num
    · clear SC
      go_wp2_with fail
      refine (AW.out _ (Pushed.below (by repeat (first | with_reducible exact Pushed.refl _ | with_reducible refine Pushed.push ?_ _ | with_reducible refine Pushed.alloc ?_ _ | with_reducible refine Pushed.drewN ?_ _ | with_reducible refine Pushed.drew ?_)))).mono ?_
      rintro x w2 ⟨rfl, hb2⟩
      go_wp2
      go_ret
      exact ⟨rfl, hb2⟩
    have SC1 := SC.out (by omega) (by omega)
    clear SC
    go_wp2
    refine world_var (P := fun V => Code.wp _ _ _ _ V) (fun V => Below w.heap.size w V ∧ w.heap.size < V.heap.size ∧ V.cell? ⟨w.heap.size, 0, none⟩ = some (.int .i64 a) ∧ V.cell? ⟨w.heap.size, 1, none⟩ = some (.string c)) ⟨Pushed.below (by repeat (first | with_reducible exact Pushed.refl _ | with_reducible refine Pushed.push ?_ _ | with_reducible refine Pushed.alloc ?_ _ | with_reducible refine Pushed.drewN ?_ _ | with_reducible refine Pushed.drew ?_)), by simp [size_push]; omega, by go_simp, by go_simp⟩ ?_
    rintro V ⟨hBV, z0, d0, d1⟩
    have HBV := Lib.hid hBV
    clear hBV
    have z1 : ∀ x : Nat, w.heap.size < V.heap.size + x := by intros; omega
    have z2 : ∀ x : Nat, w.heap.size < V.heap.size + x + 1 := by intros; omega
    have z3 : ∀ x y : Nat, w.heap.size < V.heap.size + x + 1 + y := by intros; omega
    have z4 : ∀ x y : Nat, w.heap.size < V.heap.size + x + 1 + y + 1 := by intros; omega
    have z5 : ∀ x y z : Nat, w.heap.size < V.heap.size + x + 1 + y + 1 + z := by intros; omega
    have z6 : ∀ x y z : Nat, w.heap.size < V.heap.size + x + 1 + y + 1 + z + 1 := by intros; omega
    have z7 : ∀ x y z u : Nat, w.heap.size < V.heap.size + x + 1 + y + 1 + z + 1 + u := by intros; omega
    have z8 : ∀ x y z u : Nat, w.heap.size < V.heap.size + x + 1 + y + 1 + z + 1 + u + 1 := by intros; omega
    refine wp_loop_rounds 5 ?_
    rw [rounds_succ]
    go_wp2_with fail
    with_reducible refine (SC1.out 1 (by decide) (by decide) _).mono ?_
    rintro x w1 ⟨rfl, l59, n59, rfl⟩
    go_wp2
    rw [rounds_succ]
    go_wp2_with fail
    with_reducible refine (SC1.out 2 (by decide) (by decide) _).mono ?_
    rintro x w1 ⟨rfl, l60, n60, rfl⟩
    go_wp2
    rw [rounds_succ]
    go_wp2_with fail
    with_reducible refine (SC1.out 3 (by decide) (by decide) _).mono ?_
    rintro x w1 ⟨rfl, l61, n61, rfl⟩
    go_wp2
    rw [rounds_succ]
    go_wp2_with fail
    with_reducible refine (SC1.out 4 (by decide) (by decide) _).mono ?_
    rintro x w1 ⟨rfl, l62, n62, rfl⟩
    go_wp2
    rw [rounds_succ]
    go_wp2_with fail
    refine (AW.out _ (HBV.out.trans ((Pushed.below (w := V) (by repeat (first | with_reducible exact Pushed.refl _ | with_reducible refine Pushed.push ?_ _ | with_reducible refine Pushed.alloc ?_ _ | with_reducible refine Pushed.drewN ?_ _ | with_reducible refine Pushed.drew ?_))).mono HBV.out.size))).mono ?_
    rintro x w2 ⟨rfl, hb2⟩
    go_wp2
    go_ret
    exact ⟨rfl, hb2⟩

theorem own : ownKnob Tryd.prog.godebug = none := by kernel_rfl
theorem laidOut : laidOutB Tryd.prog = true := by kernel_rfl
theorem gTab : Tryd.prog.globalNamed "math/bits.deBruijn64tab" = some 5 := by kernel_rfl
theorem gTabType : (Tryd.prog.globals[5]?).map (·.type) = some 105 := by kernel_rfl
theorem cellsTab : Tryd.prog.cellsOf 105 = 64 := by kernel_rfl
theorem cellsOne : Tryd.prog.cellsOf 5 = 1 := by kernel_rfl
theorem gPow : Tryd.prog.globalNamed "internal/strconv.uint64pow10" = some 3 := by kernel_rfl
theorem gPowType : (Tryd.prog.globals[3]?).map (·.type) = some 98 := by kernel_rfl
theorem cellsPow : Tryd.prog.cellsOf 98 = 20 := by kernel_rfl
theorem cellsU64 : Tryd.prog.cellsOf 53 = 1 := by kernel_rfl
theorem table {W : World} (h : laidMetH Tryd.prog Rows.moneyOrderRow.laid W) : ExpT W ∧ Pow W ∧ 6 ≤ W.heap.size := by
  rw [MakeChecks.laidMetH_plain _ _ _ (by kernel_rfl)] at h
  have h1 := h
  have hp : Pow W := Lib.tabIs_of_head (k := .u64) (zs := Lib.pow10Tab) gPow gPowType Tryd.underlying98 Tryd.underlying53 cellsU64 cellsPow h1.tail.tail
  have he : ExpT W := exp_of_head h1.tail.tail.tail
  refine ⟨he, hp, ?_⟩
  have hc := (Lib.tabIs_of_head (k := .u8) (zs := [0, 1, 56, 2, 57, 49, 28, 3, 61, 58, 42, 50, 38, 29, 17, 4, 62, 47, 59, 36, 45, 43, 51, 22, 53, 39, 33, 30, 24, 18, 12, 5, 63, 55, 48, 27, 60, 41, 37, 16, 46, 35, 44, 21, 52, 32, 23, 11, 54, 26, 40, 15, 34, 20, 31, 10, 25, 14, 19, 9, 13, 8, 7, 6]) gTab gTabType Tryd.underlying105 Tryd.underlying5 cellsOne cellsTab h.tail).cell gTab 15 (by decide)
  rcases Nat.lt_or_ge 5 W.heap.size with hl | hl
  · omega
  · simp [World.cell?, Array.getElem?_eq_none hl] at hc

noncomputable def laidWorld (os : Os) : World := World.doorLaid Tryd.prog 400 os
theorem laid_met (os : Os) : laidMet Tryd.prog Rows.moneyOrderRow.laid ((laidWorld os).forCall (fun _ _ => 0) ⟨#[], #[.agg #[.int .i64 0, .string ⟨#[]⟩], .agg #[.int .i64 0, .string ⟨#[]⟩], .int .i64 0], []⟩).memory :=
  laidMet_of_run' 8 (by kernel_rfl) (by kernel_rfl)
theorem reads (os : Os) {H : Type} (enc : TypeId × Value → H) : ∃ places, DataW.whole enc Tryd.prog ((laidWorld os).forCall (fun _ _ => 0) ⟨#[], #[.agg #[.int .i64 0, .string ⟨#[]⟩], .agg #[.int .i64 0, .string ⟨#[]⟩], .int .i64 0], []⟩).memory Tryd.f9.params.toList Rows.moneyOrderSpec.vars false (#[.agg #[.int .i64 0, .string ⟨#[]⟩], .agg #[.int .i64 0, .string ⟨#[]⟩], .int .i64 0] : Array Value).toList 8 = some ([.agg [.lit (.int .i64 0), .lit (.string [])], .agg [.lit (.int .i64 0), .lit (.string [])], .lit (.int .i64 0)], [], places) :=
  ⟨[], by kernel_rfl⟩
set_option maxRecDepth 100000 in
theorem contract (H : Type) (enc : TypeId × Value → H) (W : World) (base : Nat) (args : Array Value) (ds gs : List (DataW H)) (before : List MemPlace)
    (hval0 : ∀ (j : Nat) t v, Tryd.f9.params[j]? = some t → args[j]? = some v → Value.okWide Tryd.prog W .any base t v)
    (hW : DataW.Whole enc Tryd.prog Tryd.f9.params.toList Rows.moneyOrderSpec.vars false W args.toList ds gs before) (hL : laidMetH Tryd.prog Rows.moneyOrderRow.laid W) :
    Calls Tryd.prog 9 args W fun e W' => ∃ v, e = .returned v ∧ Rows.moneyOrderSpec.post enc Tryd.prog Tryd.f9 false true false false W args v W' := by
  have hval : ∀ (j : Nat) t v, Tryd.f9.params[j]? = some t → args[j]? = some v → Value.okWide Tryd.prog W .any base t v := hval0
  have hW' := hW
  obtain ⟨p, q, hA0, hV, rfl, hfz, hnd⟩ := hW
  have hA : DataW.TrodAll enc Tryd.prog W 0 (fun _ => true) true Tryd.f9.params.toList args.toList ds p := hA0
  rw [Tryd.params9] at hA hval
  obtain ⟨v0, vs0, d0, ds0, p0, q0, hargs, rfl, rfl, h0, r0⟩ := trodAll_cons hA
  obtain ⟨v1, vs1, d1, ds1, p1, q1, rfl, rfl, rfl, h1, r1⟩ := trodAll_cons r0
  obtain ⟨v2, vs2, d2, ds2, p2, q2, rfl, rfl, rfl, h2, r2⟩ := trodAll_cons r1
  obtain ⟨rfl, rfl, rfl⟩ := trodAll_nil r2
  obtain rfl : args = #[v0, v1, v2] := by cases args; simp_all
  obtain ⟨rfl, rfl⟩ := trodVars_none hV
  have k0 := h0
  have lt0 : ∀ x ∈ p0, x.block < W.heap.size := by obtain ⟨m, hm⟩ := k0; exact DataW.trod_lt m _ _ _ hm
  obtain ⟨u0_0, u0_1, y0_0, y0_1, m0, rfl, g0_0, g0_1⟩ := open_agg2 Tryd.underlying23 (by kernel_rfl) (by kernel_rfl) (hval 0 23 v0 rfl rfl) h0
  obtain ⟨ma, rfl, w_ma⟩ := one_int Tryd.underlying2 g0_0
  obtain ⟨ca, rfl, w_ca⟩ := one_string Tryd.underlying9 g0_1
  have k1 := h1
  have lt1 : ∀ x ∈ p1, x.block < W.heap.size := by obtain ⟨m, hm⟩ := k1; exact DataW.trod_lt m _ _ _ hm
  obtain ⟨u1_0, u1_1, y1_0, y1_1, m1, rfl, g1_0, g1_1⟩ := open_agg2 Tryd.underlying23 (by kernel_rfl) (by kernel_rfl) (hval 1 23 v1 rfl rfl) h1
  obtain ⟨mb, rfl, w_mb⟩ := one_int Tryd.underlying2 g1_0
  obtain ⟨cb, rfl, w_cb⟩ := one_string Tryd.underlying9 g1_1
  have k2 := h2
  have lt2 : ∀ x ∈ p2, x.block < W.heap.size := by obtain ⟨m, hm⟩ := k2; exact DataW.trod_lt m _ _ _ hm
  obtain ⟨a2, rfl, -, -, w2⟩ := open_int Tryd.underlying2 (hval 2 2 v2 rfl rfl) h2
  clear hA0 hval0
  refine (walk ma ca mb cb a2 W w_ma w_ca w_mb w_cb w2 (table hL)).mono fun e W' ⟨he, bel⟩ => ?_
  subst he
  exact ⟨_, rfl, _, _, _, [], _, [], hW', trodAll_mk1 (shut_bool Tryd.underlying4 _), (trodAll_cons_mk (Below.trod laidOut (by kernel_rfl) (of_decide_eq_true (by kernel_rfl)) k0 bel lt0) (trodAll_cons_mk (Below.trod laidOut (by kernel_rfl) (of_decide_eq_true (by kernel_rfl)) k1 bel lt1) (trodAll_cons_mk (Below.trod laidOut (by kernel_rfl) (of_decide_eq_true (by kernel_rfl)) k2 bel lt2) trodAll_mk0))), rfl, bel.frame _, fun h => by cases h⟩

set_option maxRecDepth 100000 in
theorem lifted (os : Os) (started : os.Started) (H : Type) (enc : TypeId × Value → H) (F : Stop.Interp) :
    ReturnsInHanded {} Tryd.checked os 9 .any ((OpenSpec.ofChange Rows.moneyOrderSpec).preRow enc Tryd.prog Tryd.f9 Rows.moneyOrderRow.domain false Rows.moneyOrderRow.laid) (((OpenSpec.ofChange Rows.moneyOrderSpec).at F).post enc Tryd.prog Tryd.f9 false true false false) := by
  obtain ⟨places, hx⟩ := reads os enc
  refine returnsInHanded_of_row (C := Tryd.checked) (s := OpenSpec.ofChange Rows.moneyOrderSpec) own started (by kernel_rfl) Tryd.func9
    (witness_row_at (enc := enc) (C := Tryd.checked) false (laidWorld os) #[.agg #[.int .i64 0, .string ⟨#[]⟩], .agg #[.int .i64 0, .string ⟨#[]⟩], .int .i64 0] rfl (by kernel_rfl) (by kernel_rfl) (by kernel_rfl)
      (OpenSpec.preRow_of_cond 8 hx (by kernel_rfl) (fun k hk => by cases hk) (by kernel_rfl) (laid_met os))) ?_
  intro W base args ds gs before hval hW _ _ _ hL _ _
  exact contract H enc W base args ds gs before hval hW hL
theorem said : Rows.MoneyOrderSaid :=
  OpenClaim.holds_of_cond 9 Tryd.f9 rfl rfl rfl rfl rfl rfl rfl ⟨rfl, rfl, rfl, rfl, rfl⟩ rfl rfl rfl rfl rfl (by kernel_rfl) Tryd.func9 (by kernel_rfl)
    (of_decide_eq_true (by kernel_rfl)) (by unfold Func.isWrapper; first | (rw [if_pos (by decide +kernel)]; kernel_rfl) | (rw [if_neg (by decide +kernel)]; exact ⟨rfl, rfl⟩))
    (fun os started H enc _ F => by rw [OpenClaim.pre_eq_preRow]; exact lifted os started H enc F)
/-- No parameter wants a stand-in; the program's own looks are off. -/
theorem plain (f : FuncId) (fn : Func) (hf : Tryd.pinned.checked.prog.funcNamed "cardnet/cardnetlaw01.MoneyOrder" = some f) (hfn : Tryd.pinned.checked.prog.funcs[f]? = some fn) :
    false = Tryd.pinned.checked.prog.looks [] ∧ ∀ (j : Nat) t, fn.params[j]? = some t → Tryd.pinned.checked.prog.wantsStandIn t = false := by
  obtain rfl : f = 9 := Option.some.inj ((show Tryd.prog.funcNamed "cardnet/cardnetlaw01.MoneyOrder" = some 9 by kernel_rfl).symm.trans hf) |>.symm
  obtain rfl : fn = Tryd.f9 := (Option.some.inj (Tryd.func9.symm.trans hfn)).symm
  refine ⟨by kernel_rfl, fun j t ht => ?_⟩
  rw [Tryd.params9] at ht
  have hm : t ∈ [23, 23, 2] := by simpa using Array.mem_of_getElem? ht
  have hall : ([23, 23, 2].all fun u => !Tryd.prog.wantsStandIn u) = true := by kernel_rfl
  exact (show Tryd.prog.wantsStandIn t = false by simpa using List.all_eq_true.1 hall t hm)
/-- THE CARD: the statement. -/
theorem proved : Rows.MoneyOrderCardSaid :=
  Claim7.holds_tied_plain_at .later [] _ _ _ _ said (fun _ h => by cases h) (by kernel_rfl) (fun _ h => by cases h) moneyOrder_row_tie rfl ⟨rfl, rfl⟩ (by kernel_rfl) rfl plain (by kernel_rfl)
#print axioms proved
end Go.Proofs.YtompkkanckejjaaDoor.moneyOrder
