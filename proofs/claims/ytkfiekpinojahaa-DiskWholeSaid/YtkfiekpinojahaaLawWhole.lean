/-
  PROVED: for every two lists of changes, the law DiskWhole returns true: a crash with all bits of the mask keeps all writes, and one without any none of them. Conditions: none besides the form's own reach.
-/
import Derived.Test.YtkfiekpinojahaaDK11
import Derived.ChangeSlices
import Derived.Test.YtkfiekpinojahaaRows
import Derived.WalkKit
import Derived.ProofKit
import Derived.OpenShut
import Derived.ShutString
import Derived.ChangeOld
import Derived.Below
namespace Go.Proofs.Ytkfiekpinojahaa.diskWhole
open Go.ChangeShapes Go.WideShapes Go.ChangeAt Go.RowKit
open Go.ChangeMaps (open_string shut_string)
set_option linter.unusedVariables false
set_option maxHeartbeats 3200000 in
set_option maxRecDepth 5000 in
theorem walk (A0 : Option Addr) (k0 c0 : Nat) (L0 : List CR) (A1 : Option Addr) (k1 c1 : Nat) (L1 : List CR) (keep : Bool) (w : World) (lk0 : k0 ≤ maxLen) (lc0 : k0 ≤ c0) (lS0 : CRs w w.heap.size A0 k0 L0) (lL0 : ∀ r ∈ L0, okCR r) (lk1 : k1 ≤ maxLen) (lc1 : k1 ≤ c1) (lS1 : CRs w w.heap.size A1 k1 L1) (lL1 : ∀ r ∈ L1, okCR r) :
    Calls Try.prog 5 #[.slice A0 k0 c0, .slice A1 k1 c1, .bool keep] w fun e w' => e = .returned (.bool true) ∧ Below w.heap.size w w' := by
  have AW := Lib.hid awake_any
  have S0 := Lib.hid (short_any A0 k0 c0 L0 w lS0 lk0)
  have S1 := Lib.hid (short_any A1 k1 c1 L1 w lS1 lk1)
  have HS0 := Lib.hid lS0
  have HS1 := Lib.hid lS1
  have N0 : Hid (∀ r ∈ L0, 0 ≤ r.n ∧ r.n < 256) := Lib.hid fun r hr => u8_in (lL0 r hr).1
  have N1 : Hid (∀ r ∈ L1, 0 ≤ r.n ∧ r.n < 256) := Lib.hid fun r hr => u8_in (lL1 r hr).1
  clear lk0 lc0 lS0 lL0 lk1 lc1 lS1 lL1
  go_enter Try.func5, Try.ntmps5
  go_wp2_with fail
  refine S0.out.mono ?_
  rintro e w1 ⟨b, rfl, hb0, rfl⟩
  cases b
  case false =>
    clear hb0
    go_wp2_with fail
    refine (AW.out _).mono ?_
    rintro e w1 ⟨rfl, hB⟩
    go_wp2
    go_ret
    exact ⟨rfl, hB⟩
  obtain ⟨h60, h64⟩ := hb0 rfl
  have P0 := Lib.hid h60
  have Q0 := Lib.hid h64
  clear hb0 h60 h64
  go_wp2_with fail
  refine S1.out.mono ?_
  rintro e w1 ⟨b, rfl, hb0, rfl⟩
  cases b
  case false =>
    clear hb0
    go_wp2_with fail
    refine (AW.out _).mono ?_
    rintro e w1 ⟨rfl, hB⟩
    go_wp2
    go_ret
    exact ⟨rfl, hB⟩
  obtain ⟨h60, h64⟩ := hb0 rfl
  have P1 := Lib.hid h60
  have Q1 := Lib.hid h64
  clear hb0 h60 h64
  go_wp2_with fail
  refine (new_mk w (Nat.le_refl _)).mono ?_
  rintro e w1 ⟨D, B, rfl, hr, hB⟩
  have HB := Lib.hid hB
  have HR := Lib.hid hr
  have HL := Lib.hid (Left.same hr (Below.refl _ _))
  clear hr hB
  go_wp2_with fail
  obtain ⟨a0, a1, a2, a3, a4, a5, a6, a7, ha⟩ := eight (l := appl blank8 (L0.map mp)) (by rw [appl_len]; rfl)
  have Ha := Lib.hid ha
  clear ha
  refine (write_mk2 (N := blank8) (now := blank8) (xs := #[.string a0, .string a1, .string a2, .string a3, .string a4, .string a5, .string a6, .string a7]) HL.out.rep rfl rfl (HS0.out.below (HB.out.trans (HL.out.below HR.out (Nat.le_refl _) HB.out.size))) P0.out Q0.out N0.out rfl (by rw [Ha.out]; rfl)).mono ?_
  rintro e w2 ⟨rfl, v2, hL⟩
  have HL2 := Lib.hid (HL.out.trans hL)
  clear HL hL
  have HL := HL2
  clear HL2
  go_wp2_with fail
  have hSt := St.new HL.out #[.string a0, .string a1, .string a2, .string a3, .string a4, .string a5, .string a6, .string a7]
  have hM : w.heap.size ≤ w2.heap.size := Nat.le_trans HB.out.size HL.out.kp.size
  generalize w2.alloc (.cells #[.string a0, .string a1, .string a2, .string a3, .string a4, .string a5, .string a6, .string a7] 40) = W, w2.heap.size = M at hSt hM ⊢
  have HS := Lib.hid hSt
  have HM := Lib.hid hM
  clear hSt hM HL
  refine (flush_mk2 (N' := [a0, a1, a2, a3, a4, a5, a6, a7]) HS.out.left.rep Ha.out).mono ?_
  rintro e w2 ⟨rfl, v2, hL⟩
  have HS2 := Lib.hid (HS.out.step hL)
  clear HS hL
  have HS := HS2
  clear HS2
  have c0 := HS.out.blk.cell 0
  have cf0 := HS.out.blk.frozen 0
  have c1 := HS.out.blk.cell 1
  have cf1 := HS.out.blk.frozen 1
  have c2 := HS.out.blk.cell 2
  have cf2 := HS.out.blk.frozen 2
  have c3 := HS.out.blk.cell 3
  have cf3 := HS.out.blk.frozen 3
  have c4 := HS.out.blk.cell 4
  have cf4 := HS.out.blk.frozen 4
  have c5 := HS.out.blk.cell 5
  have cf5 := HS.out.blk.frozen 5
  have c6 := HS.out.blk.cell 6
  have cf6 := HS.out.blk.frozen 6
  have c7 := HS.out.blk.cell 7
  have cf7 := HS.out.blk.frozen 7
  simp at c0 c1 c2 c3 c4 c5 c6 c7
  have cl := HS.out.blk.lt
  go_wp2_with fail
  clear cl c0 cf0 c1 cf1 c2 cf2 c3 cf3 c4 cf4 c5 cf5 c6 cf6 c7 cf7
  obtain ⟨b0, b1, b2, b3, b4, b5, b6, b7, hb⟩ := eight (l := appl [a0, a1, a2, a3, a4, a5, a6, a7] (L1.map mp)) (by rw [appl_len]; rfl)
  have Hb := Lib.hid hb
  clear hb
  cases keep
  · refine (write_mk2 (N := [a0, a1, a2, a3, a4, a5, a6, a7]) (now := [a0, a1, a2, a3, a4, a5, a6, a7]) (xs := #[.string b0, .string b1, .string b2, .string b3, .string b4, .string b5, .string b6, .string b7]) HS.out.left.rep (by rfl) (by rfl) (HS1.out.below (HB.out.trans (HS.out.left.below HR.out (Nat.le_refl _) HB.out.size))) P1.out Q1.out N1.out rfl (by rw [Hb.out]; rfl)).mono ?_
    rintro e w2 ⟨rfl, v2, hL⟩
    have HS2 := Lib.hid (HS.out.step hL)
    clear HS hL
    have HS := HS2
    clear HS2
    have c0 := HS.out.blk.cell 0
    have cf0 := HS.out.blk.frozen 0
    have c1 := HS.out.blk.cell 1
    have cf1 := HS.out.blk.frozen 1
    have c2 := HS.out.blk.cell 2
    have cf2 := HS.out.blk.frozen 2
    have c3 := HS.out.blk.cell 3
    have cf3 := HS.out.blk.frozen 3
    have c4 := HS.out.blk.cell 4
    have cf4 := HS.out.blk.frozen 4
    have c5 := HS.out.blk.cell 5
    have cf5 := HS.out.blk.frozen 5
    have c6 := HS.out.blk.cell 6
    have cf6 := HS.out.blk.frozen 6
    have c7 := HS.out.blk.cell 7
    have cf7 := HS.out.blk.frozen 7
    simp at c0 c1 c2 c3 c4 c5 c6 c7
    have cl := HS.out.blk.lt
    go_wp2_with fail
    clear cl c0 cf0 c1 cf1 c2 cf2 c3 cf3 c4 cf4 c5 cf5 c6 cf6 c7 cf7
    refine world_of (P := fun W => Calls Try.prog 22 _ W _) (fun W => St w1 W w.heap.size D B _ v2 (mk [a0, a1, a2, a3, a4, a5, a6, a7] (L1.map mp)) M #[.string a0, .string a1, .string a2, .string a3, .string a4, .string a5, .string a6, .string a7]) (by repeat (first | with_reducible exact HS.out | with_reducible refine St.alloc ?_ _ | with_reducible refine St.drew ?_ | with_reducible refine St.set ?_ _ _)) ?_
    rintro W hSt0
    have hSt : St w1 W w.heap.size D B _ v2 (mk [a0, a1, a2, a3, a4, a5, a6, a7] (L1.map mp)) M #[.string a0, .string a1, .string a2, .string a3, .string a4, .string a5, .string a6, .string a7] := hSt0
    have HS2 := Lib.hid hSt
    clear HS hSt hSt0
    have HS := HS2
    clear HS2
    refine (crash_mk (m := 0) (N' := [a0, a1, a2, a3, a4, a5, a6, a7]) HS.out.left.rep (by decide) (by decide) (surv_none _ _ _ (Nat.le_refl _))).mono ?_
    rintro e w2 ⟨rfl, v2, hL⟩
    have HS2 := Lib.hid (HS.out.step hL)
    clear HS hL
    have HS := HS2
    clear HS2
    have c0 := HS.out.blk.cell 0
    have cf0 := HS.out.blk.frozen 0
    have c1 := HS.out.blk.cell 1
    have cf1 := HS.out.blk.frozen 1
    have c2 := HS.out.blk.cell 2
    have cf2 := HS.out.blk.frozen 2
    have c3 := HS.out.blk.cell 3
    have cf3 := HS.out.blk.frozen 3
    have c4 := HS.out.blk.cell 4
    have cf4 := HS.out.blk.frozen 4
    have c5 := HS.out.blk.cell 5
    have cf5 := HS.out.blk.frozen 5
    have c6 := HS.out.blk.cell 6
    have cf6 := HS.out.blk.frozen 6
    have c7 := HS.out.blk.cell 7
    have cf7 := HS.out.blk.frozen 7
    simp at c0 c1 c2 c3 c4 c5 c6 c7
    have cl := HS.out.blk.lt
    go_wp2_with fail
    clear cl c0 cf0 c1 cf1 c2 cf2 c3 cf3 c4 cf4 c5 cf5 c6 cf6 c7 cf7
    refine (recover_dn HS.out.left.rep).mono ?_
    rintro e w2 ⟨rfl, v2, hL⟩
    have HS2 := Lib.hid (HS.out.step hL)
    clear HS hL
    have HS := HS2
    clear HS2
    have c0 := HS.out.blk.cell 0
    have cf0 := HS.out.blk.frozen 0
    have c1 := HS.out.blk.cell 1
    have cf1 := HS.out.blk.frozen 1
    have c2 := HS.out.blk.cell 2
    have cf2 := HS.out.blk.frozen 2
    have c3 := HS.out.blk.cell 3
    have cf3 := HS.out.blk.frozen 3
    have c4 := HS.out.blk.cell 4
    have cf4 := HS.out.blk.frozen 4
    have c5 := HS.out.blk.cell 5
    have cf5 := HS.out.blk.frozen 5
    have c6 := HS.out.blk.cell 6
    have cf6 := HS.out.blk.frozen 6
    have c7 := HS.out.blk.cell 7
    have cf7 := HS.out.blk.frozen 7
    simp at c0 c1 c2 c3 c4 c5 c6 c7
    have cl := HS.out.blk.lt
    go_wp2_with fail
    clear cl c0 cf0 c1 cf1 c2 cf2 c3 cf3 c4 cf4 c5 cf5 c6 cf6 c7 cf7
    refine (recover_mk HS.out.left.rep).mono ?_
    rintro e w2 ⟨rfl, v2, hL⟩
    have HS2 := Lib.hid (HS.out.step hL)
    clear HS hL
    have HS := HS2
    clear HS2
    have c0 := HS.out.blk.cell 0
    have cf0 := HS.out.blk.frozen 0
    have c1 := HS.out.blk.cell 1
    have cf1 := HS.out.blk.frozen 1
    have c2 := HS.out.blk.cell 2
    have cf2 := HS.out.blk.frozen 2
    have c3 := HS.out.blk.cell 3
    have cf3 := HS.out.blk.frozen 3
    have c4 := HS.out.blk.cell 4
    have cf4 := HS.out.blk.frozen 4
    have c5 := HS.out.blk.cell 5
    have cf5 := HS.out.blk.frozen 5
    have c6 := HS.out.blk.cell 6
    have cf6 := HS.out.blk.frozen 6
    have c7 := HS.out.blk.cell 7
    have cf7 := HS.out.blk.frozen 7
    simp at c0 c1 c2 c3 c4 c5 c6 c7
    have cl := HS.out.blk.lt
    go_wp2_with fail
    clear cl c0 cf0 c1 cf1 c2 cf2 c3 cf3 c4 cf4 c5 cf5 c6 cf6 c7 cf7
    refine (is_mk2 (l := [a0, a1, a2, a3, a4, a5, a6, a7]) HS.out.left.rep rfl rfl rfl).mono ?_
    rintro e w2 ⟨rfl, v2, hL⟩
    have HS2 := Lib.hid (HS.out.step hL)
    clear HS hL
    have HS := HS2
    clear HS2
    have c0 := HS.out.blk.cell 0
    have cf0 := HS.out.blk.frozen 0
    have c1 := HS.out.blk.cell 1
    have cf1 := HS.out.blk.frozen 1
    have c2 := HS.out.blk.cell 2
    have cf2 := HS.out.blk.frozen 2
    have c3 := HS.out.blk.cell 3
    have cf3 := HS.out.blk.frozen 3
    have c4 := HS.out.blk.cell 4
    have cf4 := HS.out.blk.frozen 4
    have c5 := HS.out.blk.cell 5
    have cf5 := HS.out.blk.frozen 5
    have c6 := HS.out.blk.cell 6
    have cf6 := HS.out.blk.frozen 6
    have c7 := HS.out.blk.cell 7
    have cf7 := HS.out.blk.frozen 7
    simp at c0 c1 c2 c3 c4 c5 c6 c7
    have cl := HS.out.blk.lt
    go_wp2_with fail
    clear cl c0 cf0 c1 cf1 c2 cf2 c3 cf3 c4 cf4 c5 cf5 c6 cf6 c7 cf7
    refine (AW.out _).mono ?_
    rintro e w3 ⟨rfl, hB3⟩
    go_wp2
    go_ret
    have hb := (HB.out.trans (HS.out.left.below HR.out (Nat.le_refl _) HB.out.size))
    exact ⟨rfl, hb.trans (hB3.mono hb.size)⟩
  · refine (write_mk2 (N := [a0, a1, a2, a3, a4, a5, a6, a7]) (now := [a0, a1, a2, a3, a4, a5, a6, a7]) (xs := #[.string b0, .string b1, .string b2, .string b3, .string b4, .string b5, .string b6, .string b7]) HS.out.left.rep (by rfl) (by rfl) (HS1.out.below (HB.out.trans (HS.out.left.below HR.out (Nat.le_refl _) HB.out.size))) P1.out Q1.out N1.out rfl (by rw [Hb.out]; rfl)).mono ?_
    rintro e w2 ⟨rfl, v2, hL⟩
    have HS2 := Lib.hid (HS.out.step hL)
    clear HS hL
    have HS := HS2
    clear HS2
    have c0 := HS.out.blk.cell 0
    have cf0 := HS.out.blk.frozen 0
    have c1 := HS.out.blk.cell 1
    have cf1 := HS.out.blk.frozen 1
    have c2 := HS.out.blk.cell 2
    have cf2 := HS.out.blk.frozen 2
    have c3 := HS.out.blk.cell 3
    have cf3 := HS.out.blk.frozen 3
    have c4 := HS.out.blk.cell 4
    have cf4 := HS.out.blk.frozen 4
    have c5 := HS.out.blk.cell 5
    have cf5 := HS.out.blk.frozen 5
    have c6 := HS.out.blk.cell 6
    have cf6 := HS.out.blk.frozen 6
    have c7 := HS.out.blk.cell 7
    have cf7 := HS.out.blk.frozen 7
    simp at c0 c1 c2 c3 c4 c5 c6 c7
    have cl := HS.out.blk.lt
    go_wp2_with fail
    clear cl c0 cf0 c1 cf1 c2 cf2 c3 cf3 c4 cf4 c5 cf5 c6 cf6 c7 cf7
    refine world_of (P := fun W => Calls Try.prog 22 _ W _) (fun W => St w1 W w.heap.size D B _ v2 (mk [a0, a1, a2, a3, a4, a5, a6, a7] (L1.map mp)) M ((((((((((((((((#[.string a0, .string a1, .string a2, .string a3, .string a4, .string a5, .string a6, .string a7]).setIfInBounds 0 (.string b0))).setIfInBounds 1 (.string b1))).setIfInBounds 2 (.string b2))).setIfInBounds 3 (.string b3))).setIfInBounds 4 (.string b4))).setIfInBounds 5 (.string b5))).setIfInBounds 6 (.string b6))).setIfInBounds 7 (.string b7))) (by repeat (first | with_reducible exact HS.out | with_reducible refine St.alloc ?_ _ | with_reducible refine St.drew ?_ | with_reducible refine St.set ?_ _ _)) ?_
    rintro W hSt0
    have hSt : St w1 W w.heap.size D B _ v2 (mk [a0, a1, a2, a3, a4, a5, a6, a7] (L1.map mp)) M #[.string b0, .string b1, .string b2, .string b3, .string b4, .string b5, .string b6, .string b7] := hSt0
    have HS2 := Lib.hid hSt
    clear HS hSt hSt0
    have HS := HS2
    clear HS2
    refine (crash_mk (m := 18446744073709551615) (N' := [b0, b1, b2, b3, b4, b5, b6, b7]) HS.out.left.rep (by decide) (by decide) ((surv_all _ _).trans Hb.out)).mono ?_
    rintro e w2 ⟨rfl, v2, hL⟩
    have HS2 := Lib.hid (HS.out.step hL)
    clear HS hL
    have HS := HS2
    clear HS2
    have c0 := HS.out.blk.cell 0
    have cf0 := HS.out.blk.frozen 0
    have c1 := HS.out.blk.cell 1
    have cf1 := HS.out.blk.frozen 1
    have c2 := HS.out.blk.cell 2
    have cf2 := HS.out.blk.frozen 2
    have c3 := HS.out.blk.cell 3
    have cf3 := HS.out.blk.frozen 3
    have c4 := HS.out.blk.cell 4
    have cf4 := HS.out.blk.frozen 4
    have c5 := HS.out.blk.cell 5
    have cf5 := HS.out.blk.frozen 5
    have c6 := HS.out.blk.cell 6
    have cf6 := HS.out.blk.frozen 6
    have c7 := HS.out.blk.cell 7
    have cf7 := HS.out.blk.frozen 7
    simp at c0 c1 c2 c3 c4 c5 c6 c7
    have cl := HS.out.blk.lt
    go_wp2_with fail
    clear cl c0 cf0 c1 cf1 c2 cf2 c3 cf3 c4 cf4 c5 cf5 c6 cf6 c7 cf7
    refine (recover_dn HS.out.left.rep).mono ?_
    rintro e w2 ⟨rfl, v2, hL⟩
    have HS2 := Lib.hid (HS.out.step hL)
    clear HS hL
    have HS := HS2
    clear HS2
    have c0 := HS.out.blk.cell 0
    have cf0 := HS.out.blk.frozen 0
    have c1 := HS.out.blk.cell 1
    have cf1 := HS.out.blk.frozen 1
    have c2 := HS.out.blk.cell 2
    have cf2 := HS.out.blk.frozen 2
    have c3 := HS.out.blk.cell 3
    have cf3 := HS.out.blk.frozen 3
    have c4 := HS.out.blk.cell 4
    have cf4 := HS.out.blk.frozen 4
    have c5 := HS.out.blk.cell 5
    have cf5 := HS.out.blk.frozen 5
    have c6 := HS.out.blk.cell 6
    have cf6 := HS.out.blk.frozen 6
    have c7 := HS.out.blk.cell 7
    have cf7 := HS.out.blk.frozen 7
    simp at c0 c1 c2 c3 c4 c5 c6 c7
    have cl := HS.out.blk.lt
    go_wp2_with fail
    clear cl c0 cf0 c1 cf1 c2 cf2 c3 cf3 c4 cf4 c5 cf5 c6 cf6 c7 cf7
    refine (recover_mk HS.out.left.rep).mono ?_
    rintro e w2 ⟨rfl, v2, hL⟩
    have HS2 := Lib.hid (HS.out.step hL)
    clear HS hL
    have HS := HS2
    clear HS2
    have c0 := HS.out.blk.cell 0
    have cf0 := HS.out.blk.frozen 0
    have c1 := HS.out.blk.cell 1
    have cf1 := HS.out.blk.frozen 1
    have c2 := HS.out.blk.cell 2
    have cf2 := HS.out.blk.frozen 2
    have c3 := HS.out.blk.cell 3
    have cf3 := HS.out.blk.frozen 3
    have c4 := HS.out.blk.cell 4
    have cf4 := HS.out.blk.frozen 4
    have c5 := HS.out.blk.cell 5
    have cf5 := HS.out.blk.frozen 5
    have c6 := HS.out.blk.cell 6
    have cf6 := HS.out.blk.frozen 6
    have c7 := HS.out.blk.cell 7
    have cf7 := HS.out.blk.frozen 7
    simp at c0 c1 c2 c3 c4 c5 c6 c7
    have cl := HS.out.blk.lt
    go_wp2_with fail
    clear cl c0 cf0 c1 cf1 c2 cf2 c3 cf3 c4 cf4 c5 cf5 c6 cf6 c7 cf7
    refine (is_mk2 (l := [b0, b1, b2, b3, b4, b5, b6, b7]) HS.out.left.rep rfl rfl rfl).mono ?_
    rintro e w2 ⟨rfl, v2, hL⟩
    have HS2 := Lib.hid (HS.out.step hL)
    clear HS hL
    have HS := HS2
    clear HS2
    have c0 := HS.out.blk.cell 0
    have cf0 := HS.out.blk.frozen 0
    have c1 := HS.out.blk.cell 1
    have cf1 := HS.out.blk.frozen 1
    have c2 := HS.out.blk.cell 2
    have cf2 := HS.out.blk.frozen 2
    have c3 := HS.out.blk.cell 3
    have cf3 := HS.out.blk.frozen 3
    have c4 := HS.out.blk.cell 4
    have cf4 := HS.out.blk.frozen 4
    have c5 := HS.out.blk.cell 5
    have cf5 := HS.out.blk.frozen 5
    have c6 := HS.out.blk.cell 6
    have cf6 := HS.out.blk.frozen 6
    have c7 := HS.out.blk.cell 7
    have cf7 := HS.out.blk.frozen 7
    simp at c0 c1 c2 c3 c4 c5 c6 c7
    have cl := HS.out.blk.lt
    go_wp2_with fail
    clear cl c0 cf0 c1 cf1 c2 cf2 c3 cf3 c4 cf4 c5 cf5 c6 cf6 c7 cf7
    refine (AW.out _).mono ?_
    rintro e w3 ⟨rfl, hB3⟩
    go_wp2
    go_ret
    have hb := (HB.out.trans (HS.out.left.below HR.out (Nat.le_refl _) HB.out.size))
    exact ⟨rfl, hb.trans (hB3.mono hb.size)⟩

theorem own : ownKnob Try.prog.godebug = none := by kernel_rfl
theorem laidOut : laidOutB Try.prog = true := by kernel_rfl
set_option maxRecDepth 100000 in
theorem lifted (os : Os) (started : os.Started) (H : Type) (enc : TypeId × Value → H) :
    ReturnsInHanded {} Try.checked os 5 .any (Rows.diskWholeSpec.pre6 enc Try.prog Try.f5 Rows.diskWholeRow.domain false) (Rows.diskWholeSpec.post enc Try.prog Try.f5 false true false false) := by
  refine returnsInHanded_of_change (C := Try.checked) own started (by kernel_rfl) Try.func5
    (ChangeSpec.witness6 (enc := enc) (C := Try.checked) false ⟨#[], #[.slice none 0 0, .slice none 0 0, .bool false], []⟩ 8 (by kernel_rfl) (by kernel_rfl) (by kernel_rfl) (by kernel_rfl)) ?_
  intro W base args ds gs before hval0 hW hcnd _
  have hval : ∀ (j : Nat) t v, Try.f5.params[j]? = some t → args[j]? = some v → Value.okWide Try.prog W .any base t v := hval0
  have hW' := hW
  obtain ⟨p, q, hA0, hV, rfl, hfz, hnd⟩ := hW
  have hA : DataW.TrodAll enc Try.prog W 0 (fun _ => true) true Try.f5.params.toList args.toList ds p := hA0
  rw [Try.params5] at hA hval
  obtain ⟨v0, vs0, d0, ds0, p0, q0, hargs, rfl, rfl, h0, r0⟩ := trodAll_cons hA
  obtain ⟨v1, vs1, d1, ds1, p1, q1, rfl, rfl, rfl, h1, r1⟩ := trodAll_cons r0
  obtain ⟨v2, vs2, d2, ds2, p2, q2, rfl, rfl, rfl, h2, r2⟩ := trodAll_cons r1
  obtain ⟨rfl, rfl, rfl⟩ := trodAll_nil r2
  obtain rfl : args = #[v0, v1, v2] := by cases args; simp_all
  obtain ⟨rfl, rfl⟩ := trodVars_none hV
  have k0 := h0
  have lt0 : ∀ x ∈ p0, x.block < W.heap.size := by obtain ⟨m, hm⟩ := k0; exact DataW.trod_lt m _ _ _ hm
  obtain ⟨zA0, zk0, zc0, zL0, rfl, lk0, lc0, lS0, lL0⟩ := open_CRT (hval 0 38 v0 rfl rfl) h0
  have k1 := h1
  have lt1 : ∀ x ∈ p1, x.block < W.heap.size := by obtain ⟨m, hm⟩ := k1; exact DataW.trod_lt m _ _ _ hm
  obtain ⟨zA1, zk1, zc1, zL1, rfl, lk1, lc1, lS1, lL1⟩ := open_CRT (hval 1 38 v1 rfl rfl) h1
  have k2 := h2
  have lt2 : ∀ x ∈ p2, x.block < W.heap.size := by obtain ⟨m, hm⟩ := k2; exact DataW.trod_lt m _ _ _ hm
  obtain ⟨a2, rfl, -, -⟩ := open_bool Try.underlying4 (hval 2 4 v2 rfl rfl) h2
  clear hA0 hval0
  refine (walk zA0 zk0 zc0 zL0 zA1 zk1 zc1 zL1 a2 W lk0 lc0 lS0 lL0 lk1 lc1 lS1 lL1 ).mono fun e W' ⟨he, bel⟩ => ?_
  subst he
  exact ⟨_, rfl, _, _, _, [], _, [], hW', trodAll_mk1 (shut_bool Try.underlying4 _), (trodAll_cons_mk (Below.trod laidOut (by kernel_rfl) (of_decide_eq_true (by kernel_rfl)) k0 bel lt0) (trodAll_cons_mk (Below.trod laidOut (by kernel_rfl) (of_decide_eq_true (by kernel_rfl)) k1 bel lt1) (trodAll_cons_mk (Below.trod laidOut (by kernel_rfl) (of_decide_eq_true (by kernel_rfl)) k2 bel lt2) trodAll_mk0))), rfl, bel.frame _, fun h => by cases h⟩

theorem over : Rows.diskWholeRow.holds Try.pinned (OpenSpec.ofChange Rows.diskWholeSpec) :=
  OpenClaim.holds_of_wide 5 Try.f5 rfl rfl rfl rfl rfl rfl rfl ⟨rfl, rfl, rfl, rfl, rfl⟩ rfl rfl rfl rfl rfl (by kernel_rfl) Try.func5 (by kernel_rfl)
    (of_decide_eq_true (by kernel_rfl)) (by unfold Func.isWrapper; first | (rw [if_pos (by decide +kernel)]; kernel_rfl) | (rw [if_neg (by decide +kernel)]; exact ⟨rfl, rfl⟩))
    (fun os started H enc _ => lifted os started H enc)
/-- THE STATEMENT. -/
theorem proved : Rows.DiskWholeSaid := over
#print axioms proved
end Go.Proofs.Ytkfiekpinojahaa.diskWhole
