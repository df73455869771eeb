/-
  PROVED: for every two lists of changes and every mask, the law DiskCrashes returns true: flushed blocks survive every crash. Conditions: none besides the form's own reach.
-/
import Derived.Test.YtkfiekpinojahaaDK11
import Derived.ChangeSlices
import Derived.Test.YtkfiekpinojahaaRows
import Derived.WalkKit
import Derived.ProofKit
import Derived.OpenShut
import Derived.ShutString
import Derived.ChangeOld
import Derived.Below
namespace Go.Proofs.Ytkfiekpinojahaa.diskCrashes
open Go.ChangeShapes Go.WideShapes Go.ChangeAt Go.RowKit
open Go.ChangeMaps (open_string shut_string)
set_option linter.unusedVariables false
set_option maxHeartbeats 3200000 in
set_option maxRecDepth 5000 in
theorem walk0 (A0 : Option Addr) (k0 c0 : Nat) (L0 : List CR) (A1 : Option Addr) (k1 c1 : Nat) (L1 : List CR) (m : Nat) (hm : m < 18446744073709551616) (w : World) (lk0 : k0 ≤ maxLen) (lc0 : k0 ≤ c0) (lS0 : CRs w w.heap.size A0 k0 L0) (lL0 : ∀ r ∈ L0, okCR r) (lk1 : k1 ≤ maxLen) (lc1 : k1 ≤ c1) (lS1 : CRs w w.heap.size A1 k1 L1) (lL1 : ∀ r ∈ L1, okCR r) :
    Calls Try.prog 4 #[.slice A0 k0 c0, .slice A1 k1 c1, .int .u64 (m : Int)] w fun e w' => e = .returned (.bool true) ∧ Below w.heap.size w w' := by
  have HMM := Lib.hid hm
  clear hm
  have AW := Lib.hid awake_any
  have S0 := Lib.hid (short_any A0 k0 c0 L0 w lS0 lk0)
  have S1 := Lib.hid (short_any A1 k1 c1 L1 w lS1 lk1)
  have HS0 := Lib.hid lS0
  have HS1 := Lib.hid lS1
  have N0 : Hid (∀ r ∈ L0, 0 ≤ r.n ∧ r.n < 256) := Lib.hid fun r hr => u8_in (lL0 r hr).1
  have N1 : Hid (∀ r ∈ L1, 0 ≤ r.n ∧ r.n < 256) := Lib.hid fun r hr => u8_in (lL1 r hr).1
  clear lk0 lc0 lS0 lL0 lk1 lc1 lS1 lL1
  go_enter Try.func4, Try.ntmps4
  go_wp2_with fail
  refine S0.out.mono ?_
  rintro e w1 ⟨b, rfl, hb0, rfl⟩
  cases b
  case false =>
    clear hb0
    go_wp2_with fail
    refine (AW.out _).mono ?_
    rintro e w1 ⟨rfl, hB⟩
    go_wp2
    go_ret
    exact ⟨rfl, hB⟩
  obtain ⟨h60, h64⟩ := hb0 rfl
  have P0 := Lib.hid h60
  have Q0 := Lib.hid h64
  clear hb0 h60 h64
  go_wp2_with fail
  refine S1.out.mono ?_
  rintro e w1 ⟨b, rfl, hb0, rfl⟩
  cases b
  case false =>
    clear hb0
    go_wp2_with fail
    refine (AW.out _).mono ?_
    rintro e w1 ⟨rfl, hB⟩
    go_wp2
    go_ret
    exact ⟨rfl, hB⟩
  obtain ⟨h60, h64⟩ := hb0 rfl
  have P1 := Lib.hid h60
  have Q1 := Lib.hid h64
  clear hb0 h60 h64
  go_wp2_with fail
  refine (new_mk w (Nat.le_refl _)).mono ?_
  rintro e w1 ⟨D, B, rfl, hr, hB⟩
  have HB := Lib.hid hB
  have HR := Lib.hid hr
  have HL := Lib.hid (Left.same hr (Below.refl _ _))
  clear hr hB
  go_wp2_with fail
  obtain ⟨a0, a1, a2, a3, a4, a5, a6, a7, ha⟩ := eight (l := appl blank8 (L0.map mp)) (by rw [appl_len]; rfl)
  have Ha := Lib.hid ha
  clear ha
  refine (write_mk2 (N := blank8) (now := blank8) (xs := #[.string a0, .string a1, .string a2, .string a3, .string a4, .string a5, .string a6, .string a7]) HL.out.rep rfl rfl (HS0.out.below (HB.out.trans (HL.out.below HR.out (Nat.le_refl _) HB.out.size))) P0.out Q0.out N0.out rfl (by rw [Ha.out]; rfl)).mono ?_
  rintro e w2 ⟨rfl, v2, hL⟩
  have HL2 := Lib.hid (HL.out.trans hL)
  clear HL hL
  have HL := HL2
  clear HL2
  go_wp2_with fail
  have hSt := St.new HL.out #[.string a0, .string a1, .string a2, .string a3, .string a4, .string a5, .string a6, .string a7]
  have hM : w.heap.size ≤ w2.heap.size := Nat.le_trans HB.out.size HL.out.kp.size
  generalize w2.alloc (.cells #[.string a0, .string a1, .string a2, .string a3, .string a4, .string a5, .string a6, .string a7] 40) = W, w2.heap.size = M at hSt hM ⊢
  have HS := Lib.hid hSt
  have HM := Lib.hid hM
  clear hSt hM HL
  refine (is_mk2 (l := [a0, a1, a2, a3, a4, a5, a6, a7]) HS.out.left.rep rfl Ha.out rfl).mono ?_
  rintro e w2 ⟨rfl, v2, hL⟩
  have HS2 := Lib.hid (HS.out.step hL)
  clear HS hL
  have HS := HS2
  clear HS2
  have c0 := HS.out.blk.cell 0
  have cf0 := HS.out.blk.frozen 0
  have c1 := HS.out.blk.cell 1
  have cf1 := HS.out.blk.frozen 1
  have c2 := HS.out.blk.cell 2
  have cf2 := HS.out.blk.frozen 2
  have c3 := HS.out.blk.cell 3
  have cf3 := HS.out.blk.frozen 3
  have c4 := HS.out.blk.cell 4
  have cf4 := HS.out.blk.frozen 4
  have c5 := HS.out.blk.cell 5
  have cf5 := HS.out.blk.frozen 5
  have c6 := HS.out.blk.cell 6
  have cf6 := HS.out.blk.frozen 6
  have c7 := HS.out.blk.cell 7
  have cf7 := HS.out.blk.frozen 7
  simp at c0 c1 c2 c3 c4 c5 c6 c7
  have cl := HS.out.blk.lt
  go_wp2_with fail
  clear cl c0 cf0 c1 cf1 c2 cf2 c3 cf3 c4 cf4 c5 cf5 c6 cf6 c7 cf7
  refine (flush_mk2 (N' := [a0, a1, a2, a3, a4, a5, a6, a7]) HS.out.left.rep Ha.out).mono ?_
  rintro e w2 ⟨rfl, v2, hL⟩
  have HS2 := Lib.hid (HS.out.step hL)
  clear HS hL
  have HS := HS2
  clear HS2
  have c0 := HS.out.blk.cell 0
  have cf0 := HS.out.blk.frozen 0
  have c1 := HS.out.blk.cell 1
  have cf1 := HS.out.blk.frozen 1
  have c2 := HS.out.blk.cell 2
  have cf2 := HS.out.blk.frozen 2
  have c3 := HS.out.blk.cell 3
  have cf3 := HS.out.blk.frozen 3
  have c4 := HS.out.blk.cell 4
  have cf4 := HS.out.blk.frozen 4
  have c5 := HS.out.blk.cell 5
  have cf5 := HS.out.blk.frozen 5
  have c6 := HS.out.blk.cell 6
  have cf6 := HS.out.blk.frozen 6
  have c7 := HS.out.blk.cell 7
  have cf7 := HS.out.blk.frozen 7
  simp at c0 c1 c2 c3 c4 c5 c6 c7
  have cl := HS.out.blk.lt
  go_wp2_with fail
  clear cl c0 cf0 c1 cf1 c2 cf2 c3 cf3 c4 cf4 c5 cf5 c6 cf6 c7 cf7
  refine (pending_eq HS.out.left.rep (c := 0) rfl).mono ?_
  rintro e w2 ⟨rfl, rfl⟩
  have c0 := HS.out.blk.cell 0
  have cf0 := HS.out.blk.frozen 0
  have c1 := HS.out.blk.cell 1
  have cf1 := HS.out.blk.frozen 1
  have c2 := HS.out.blk.cell 2
  have cf2 := HS.out.blk.frozen 2
  have c3 := HS.out.blk.cell 3
  have cf3 := HS.out.blk.frozen 3
  have c4 := HS.out.blk.cell 4
  have cf4 := HS.out.blk.frozen 4
  have c5 := HS.out.blk.cell 5
  have cf5 := HS.out.blk.frozen 5
  have c6 := HS.out.blk.cell 6
  have cf6 := HS.out.blk.frozen 6
  have c7 := HS.out.blk.cell 7
  have cf7 := HS.out.blk.frozen 7
  simp at c0 c1 c2 c3 c4 c5 c6 c7
  have cl := HS.out.blk.lt
  go_wp2_with fail
  clear cl c0 cf0 c1 cf1 c2 cf2 c3 cf3 c4 cf4 c5 cf5 c6 cf6 c7 cf7
  obtain ⟨b0, b1, b2, b3, b4, b5, b6, b7, hb⟩ := eight (l := appl [a0, a1, a2, a3, a4, a5, a6, a7] (L1.map mp)) (by rw [appl_len]; rfl)
  have Hb := Lib.hid hb
  clear hb
  refine (write_mk2 (N := [a0, a1, a2, a3, a4, a5, a6, a7]) (now := [a0, a1, a2, a3, a4, a5, a6, a7]) (xs := #[.string b0, .string b1, .string b2, .string b3, .string b4, .string b5, .string b6, .string b7]) HS.out.left.rep (by rfl) (by rfl) (HS1.out.below (HB.out.trans (HS.out.left.below HR.out (Nat.le_refl _) HB.out.size))) P1.out Q1.out N1.out rfl (by rw [Hb.out]; rfl)).mono ?_
  rintro e w2 ⟨rfl, v2, hL⟩
  have HS2 := Lib.hid (HS.out.step hL)
  clear HS hL
  have HS := HS2
  clear HS2
  have c0 := HS.out.blk.cell 0
  have cf0 := HS.out.blk.frozen 0
  have c1 := HS.out.blk.cell 1
  have cf1 := HS.out.blk.frozen 1
  have c2 := HS.out.blk.cell 2
  have cf2 := HS.out.blk.frozen 2
  have c3 := HS.out.blk.cell 3
  have cf3 := HS.out.blk.frozen 3
  have c4 := HS.out.blk.cell 4
  have cf4 := HS.out.blk.frozen 4
  have c5 := HS.out.blk.cell 5
  have cf5 := HS.out.blk.frozen 5
  have c6 := HS.out.blk.cell 6
  have cf6 := HS.out.blk.frozen 6
  have c7 := HS.out.blk.cell 7
  have cf7 := HS.out.blk.frozen 7
  simp at c0 c1 c2 c3 c4 c5 c6 c7
  have cl := HS.out.blk.lt
  go_wp2_with fail
  clear cl c0 cf0 c1 cf1 c2 cf2 c3 cf3 c4 cf4 c5 cf5 c6 cf6 c7 cf7
  refine world_of (P := fun W => Calls Try.prog 20 _ W _) (fun W => St w1 W w.heap.size D B _ v2 (mk [a0, a1, a2, a3, a4, a5, a6, a7] (L1.map mp)) M #[.string a0, .string a1, .string a2, .string a3, .string a4, .string a5, .string a6, .string a7]) (by repeat (first | with_reducible exact HS.out | with_reducible refine St.alloc ?_ _ | with_reducible refine St.drew ?_ | with_reducible refine St.set ?_ _ _)) ?_
  rintro W hSt0
  have hSt : St w1 W w.heap.size D B _ v2 (mk [a0, a1, a2, a3, a4, a5, a6, a7] (L1.map mp)) M #[.string a0, .string a1, .string a2, .string a3, .string a4, .string a5, .string a6, .string a7] := hSt0
  have HS2 := Lib.hid hSt
  clear HS hSt hSt0
  have HS := HS2
  clear HS2
  refine (is_mk2 (l := [b0, b1, b2, b3, b4, b5, b6, b7]) HS.out.left.rep rfl Hb.out rfl).mono ?_
  rintro e w2 ⟨rfl, v2, hL⟩
  have HS2 := Lib.hid (HS.out.step hL)
  clear HS hL
  have HS := HS2
  clear HS2
  have c0 := HS.out.blk.cell 0
  have cf0 := HS.out.blk.frozen 0
  have c1 := HS.out.blk.cell 1
  have cf1 := HS.out.blk.frozen 1
  have c2 := HS.out.blk.cell 2
  have cf2 := HS.out.blk.frozen 2
  have c3 := HS.out.blk.cell 3
  have cf3 := HS.out.blk.frozen 3
  have c4 := HS.out.blk.cell 4
  have cf4 := HS.out.blk.frozen 4
  have c5 := HS.out.blk.cell 5
  have cf5 := HS.out.blk.frozen 5
  have c6 := HS.out.blk.cell 6
  have cf6 := HS.out.blk.frozen 6
  have c7 := HS.out.blk.cell 7
  have cf7 := HS.out.blk.frozen 7
  simp at c0 c1 c2 c3 c4 c5 c6 c7
  have cl := HS.out.blk.lt
  go_wp2_with fail
  clear cl c0 cf0 c1 cf1 c2 cf2 c3 cf3 c4 cf4 c5 cf5 c6 cf6 c7 cf7
  have HK1 : Hid ((((mk [a0, a1, a2, a3, a4, a5, a6, a7] (L1.map mp)).pe.length : Nat) : Int) = (k1 : Int)) := Lib.hid (by have := HS1.out.1; simp [mk, this])
  refine (pending_eq HS.out.left.rep (c := (k1 : Int)) HK1.out).mono ?_
  rintro e w2 ⟨rfl, rfl⟩
  have c0 := HS.out.blk.cell 0
  have cf0 := HS.out.blk.frozen 0
  have c1 := HS.out.blk.cell 1
  have cf1 := HS.out.blk.frozen 1
  have c2 := HS.out.blk.cell 2
  have cf2 := HS.out.blk.frozen 2
  have c3 := HS.out.blk.cell 3
  have cf3 := HS.out.blk.frozen 3
  have c4 := HS.out.blk.cell 4
  have cf4 := HS.out.blk.frozen 4
  have c5 := HS.out.blk.cell 5
  have cf5 := HS.out.blk.frozen 5
  have c6 := HS.out.blk.cell 6
  have cf6 := HS.out.blk.frozen 6
  have c7 := HS.out.blk.cell 7
  have cf7 := HS.out.blk.frozen 7
  simp at c0 c1 c2 c3 c4 c5 c6 c7
  have cl := HS.out.blk.lt
  go_wp2_with fail
  clear cl c0 cf0 c1 cf1 c2 cf2 c3 cf3 c4 cf4 c5 cf5 c6 cf6 c7 cf7
  obtain ⟨z0, z1, z2, z3, z4, z5, z6, z7, hz⟩ := eight (l := surv m [a0, a1, a2, a3, a4, a5, a6, a7] (L1.map mp) (L1.map mp).length) (by rw [surv_len]; rfl)
  have Hz := Lib.hid hz
  clear hz
  refine (crash_mk (m := m) (N' := [z0, z1, z2, z3, z4, z5, z6, z7]) HS.out.left.rep HMM.out rfl Hz.out).mono ?_
  rintro e w2 ⟨rfl, v2, hL⟩
  have HS2 := Lib.hid (HS.out.step hL)
  clear HS hL
  have HS := HS2
  clear HS2
  have c0 := HS.out.blk.cell 0
  have cf0 := HS.out.blk.frozen 0
  have c1 := HS.out.blk.cell 1
  have cf1 := HS.out.blk.frozen 1
  have c2 := HS.out.blk.cell 2
  have cf2 := HS.out.blk.frozen 2
  have c3 := HS.out.blk.cell 3
  have cf3 := HS.out.blk.frozen 3
  have c4 := HS.out.blk.cell 4
  have cf4 := HS.out.blk.frozen 4
  have c5 := HS.out.blk.cell 5
  have cf5 := HS.out.blk.frozen 5
  have c6 := HS.out.blk.cell 6
  have cf6 := HS.out.blk.frozen 6
  have c7 := HS.out.blk.cell 7
  have cf7 := HS.out.blk.frozen 7
  simp at c0 c1 c2 c3 c4 c5 c6 c7
  have cl := HS.out.blk.lt
  go_wp2_with fail
  clear cl c0 cf0 c1 cf1 c2 cf2 c3 cf3 c4 cf4 c5 cf5 c6 cf6 c7 cf7
  refine (down_eq HS.out.left.rep (b := true) rfl).mono ?_
  rintro e w2 ⟨rfl, rfl⟩
  have c0 := HS.out.blk.cell 0
  have cf0 := HS.out.blk.frozen 0
  have c1 := HS.out.blk.cell 1
  have cf1 := HS.out.blk.frozen 1
  have c2 := HS.out.blk.cell 2
  have cf2 := HS.out.blk.frozen 2
  have c3 := HS.out.blk.cell 3
  have cf3 := HS.out.blk.frozen 3
  have c4 := HS.out.blk.cell 4
  have cf4 := HS.out.blk.frozen 4
  have c5 := HS.out.blk.cell 5
  have cf5 := HS.out.blk.frozen 5
  have c6 := HS.out.blk.cell 6
  have cf6 := HS.out.blk.frozen 6
  have c7 := HS.out.blk.cell 7
  have cf7 := HS.out.blk.frozen 7
  simp at c0 c1 c2 c3 c4 c5 c6 c7
  have cl := HS.out.blk.lt
  go_wp2_with fail
  clear cl c0 cf0 c1 cf1 c2 cf2 c3 cf3 c4 cf4 c5 cf5 c6 cf6 c7 cf7
  refine (pending_eq HS.out.left.rep (c := 0) rfl).mono ?_
  rintro e w2 ⟨rfl, rfl⟩
  have c0 := HS.out.blk.cell 0
  have cf0 := HS.out.blk.frozen 0
  have c1 := HS.out.blk.cell 1
  have cf1 := HS.out.blk.frozen 1
  have c2 := HS.out.blk.cell 2
  have cf2 := HS.out.blk.frozen 2
  have c3 := HS.out.blk.cell 3
  have cf3 := HS.out.blk.frozen 3
  have c4 := HS.out.blk.cell 4
  have cf4 := HS.out.blk.frozen 4
  have c5 := HS.out.blk.cell 5
  have cf5 := HS.out.blk.frozen 5
  have c6 := HS.out.blk.cell 6
  have cf6 := HS.out.blk.frozen 6
  have c7 := HS.out.blk.cell 7
  have cf7 := HS.out.blk.frozen 7
  simp at c0 c1 c2 c3 c4 c5 c6 c7
  have cl := HS.out.blk.lt
  go_wp2_with fail
  clear cl c0 cf0 c1 cf1 c2 cf2 c3 cf3 c4 cf4 c5 cf5 c6 cf6 c7 cf7
  refine (read_eq HS.out.left.rep (n := 0) (c := 13) (t := ⟨#[]⟩) rfl rfl).mono ?_
  rintro e w2 ⟨rfl, rfl⟩
  have c0 := HS.out.blk.cell 0
  have cf0 := HS.out.blk.frozen 0
  have c1 := HS.out.blk.cell 1
  have cf1 := HS.out.blk.frozen 1
  have c2 := HS.out.blk.cell 2
  have cf2 := HS.out.blk.frozen 2
  have c3 := HS.out.blk.cell 3
  have cf3 := HS.out.blk.frozen 3
  have c4 := HS.out.blk.cell 4
  have cf4 := HS.out.blk.frozen 4
  have c5 := HS.out.blk.cell 5
  have cf5 := HS.out.blk.frozen 5
  have c6 := HS.out.blk.cell 6
  have cf6 := HS.out.blk.frozen 6
  have c7 := HS.out.blk.cell 7
  have cf7 := HS.out.blk.frozen 7
  simp at c0 c1 c2 c3 c4 c5 c6 c7
  have cl := HS.out.blk.lt
  go_wp2_with fail
  clear cl c0 cf0 c1 cf1 c2 cf2 c3 cf3 c4 cf4 c5 cf5 c6 cf6 c7 cf7
  refine (flush_dn HS.out.left.rep).mono ?_
  rintro e w2 ⟨rfl, v2, hL⟩
  have HS2 := Lib.hid (HS.out.step hL)
  clear HS hL
  have HS := HS2
  clear HS2
  have c0 := HS.out.blk.cell 0
  have cf0 := HS.out.blk.frozen 0
  have c1 := HS.out.blk.cell 1
  have cf1 := HS.out.blk.frozen 1
  have c2 := HS.out.blk.cell 2
  have cf2 := HS.out.blk.frozen 2
  have c3 := HS.out.blk.cell 3
  have cf3 := HS.out.blk.frozen 3
  have c4 := HS.out.blk.cell 4
  have cf4 := HS.out.blk.frozen 4
  have c5 := HS.out.blk.cell 5
  have cf5 := HS.out.blk.frozen 5
  have c6 := HS.out.blk.cell 6
  have cf6 := HS.out.blk.frozen 6
  have c7 := HS.out.blk.cell 7
  have cf7 := HS.out.blk.frozen 7
  simp at c0 c1 c2 c3 c4 c5 c6 c7
  have cl := HS.out.blk.lt
  go_wp2_with fail
  clear cl c0 cf0 c1 cf1 c2 cf2 c3 cf3 c4 cf4 c5 cf5 c6 cf6 c7 cf7
  refine (recover_dn HS.out.left.rep).mono ?_
  rintro e w2 ⟨rfl, v2, hL⟩
  have HS2 := Lib.hid (HS.out.step hL)
  clear HS hL
  have HS := HS2
  clear HS2
  have c0 := HS.out.blk.cell 0
  have cf0 := HS.out.blk.frozen 0
  have c1 := HS.out.blk.cell 1
  have cf1 := HS.out.blk.frozen 1
  have c2 := HS.out.blk.cell 2
  have cf2 := HS.out.blk.frozen 2
  have c3 := HS.out.blk.cell 3
  have cf3 := HS.out.blk.frozen 3
  have c4 := HS.out.blk.cell 4
  have cf4 := HS.out.blk.frozen 4
  have c5 := HS.out.blk.cell 5
  have cf5 := HS.out.blk.frozen 5
  have c6 := HS.out.blk.cell 6
  have cf6 := HS.out.blk.frozen 6
  have c7 := HS.out.blk.cell 7
  have cf7 := HS.out.blk.frozen 7
  simp at c0 c1 c2 c3 c4 c5 c6 c7
  have cl := HS.out.blk.lt
  go_wp2_with fail
  clear cl c0 cf0 c1 cf1 c2 cf2 c3 cf3 c4 cf4 c5 cf5 c6 cf6 c7 cf7
  refine (down_eq HS.out.left.rep (b := false) rfl).mono ?_
  rintro e w2 ⟨rfl, rfl⟩
  have c0 := HS.out.blk.cell 0
  have cf0 := HS.out.blk.frozen 0
  have c1 := HS.out.blk.cell 1
  have cf1 := HS.out.blk.frozen 1
  have c2 := HS.out.blk.cell 2
  have cf2 := HS.out.blk.frozen 2
  have c3 := HS.out.blk.cell 3
  have cf3 := HS.out.blk.frozen 3
  have c4 := HS.out.blk.cell 4
  have cf4 := HS.out.blk.frozen 4
  have c5 := HS.out.blk.cell 5
  have cf5 := HS.out.blk.frozen 5
  have c6 := HS.out.blk.cell 6
  have cf6 := HS.out.blk.frozen 6
  have c7 := HS.out.blk.cell 7
  have cf7 := HS.out.blk.frozen 7
  simp at c0 c1 c2 c3 c4 c5 c6 c7
  have cl := HS.out.blk.lt
  go_wp2_with fail
  clear cl c0 cf0 c1 cf1 c2 cf2 c3 cf3 c4 cf4 c5 cf5 c6 cf6 c7 cf7
  have SV0 : surv m [a0, a1, a2, a3, a4, a5, a6, a7] (L1.map mp) 0 = [a0, a1, a2, a3, a4, a5, a6, a7] := rfl
  have HSV := Lib.hid SV0
  clear SV0
  go_loopw [14] (fun i wr => ∃ k : Nat, k ≤ k1 ∧ i = .int .i64 (k : Int) ∧ St w1 wr w.heap.size D B (.slice none 0 0) v2 (mk [z0, z1, z2, z3, z4, z5, z6, z7] []) M (strs (surv m [a0, a1, a2, a3, a4, a5, a6, a7] (L1.map mp) k))) (fun i _ => k1 - (intOf i).toNat)
  case atStart => exact ⟨0, by omega, rfl, HS.out⟩
  case round =>
    obtain ⟨k, hk, rfl, hSt⟩ := hrel
    clear HS
    have HS := Lib.hid hSt
    clear hSt
    by_cases hlt : k < k1
    · have hbk : Below w.heap.size w wr := (HB.out.trans (HS.out.left.below HR.out (Nat.le_refl _) HB.out.size))
      obtain ⟨ad, x, p, rfl, hx, hp, hpb, c0, c1⟩ := CRs.at (HS1.out.below hbk) hlt
      have HX := Lib.hid hx
      have hx1 := N1.out x (cr_mem hx)
      obtain ⟨q, hq⟩ : ∃ q : Nat, q = (x.n % 8).toNat := ⟨_, rfl⟩
      have hq1 : x.n % 8 = (q : Int) := by omega
      have hq2 : q < 8 := by omega
      have hq3 : x.n.tmod 8 = (q : Int) := by rw [Int.tmod_eq_emod_of_nonneg hx1.1]; exact hq1
      have hmp : mp x = (q, x.t) := by rw [hq]; rfl
      have HMP := Lib.hid hmp
      have hpl : p.block < wr.heap.size := by have := hbk.size; omega
      have hxw : ((L1.map mp))[k]? = some (q, x.t) := by rw [List.getElem?_map, HX.out]; exact congrArg some hmp
      have HXW := Lib.hid hxw
      have hk60 : k % 64 = k := by have := P1.out; omega
      have HK60 := Lib.hid hk60
      have hbit := bit_and m k HMM.out
      obtain ⟨y, hy⟩ : ∃ y, wr.cell? ⟨M, q, none⟩ = some y := by
        rw [HS.out.blk.cell q, strs_get, List.getElem?_eq_getElem (by rw [surv_len]; exact hq2)]
        exact ⟨_, rfl⟩
      have hyf := HS.out.blk.frozen q
      have hyl := HS.out.blk.lt
      obtain ⟨hx2, hx3⟩ := hx1
      have hk6 : k < 60 := by have := P1.out; omega
      clear hmp hx hxw hk60 hq hbk
      cases hb : m.testBit k
      · rw [hb] at hbit
        have HN : Hid (surv m [a0, a1, a2, a3, a4, a5, a6, a7] (L1.map mp) (k + 1) = surv m [a0, a1, a2, a3, a4, a5, a6, a7] (L1.map mp) k) := Lib.hid (by rw [surv_succ m _ _ HXW.out, HK60.out, hb, if_neg (by simp)])
        clear hb
        go_wp2_with fail
        go_round
        case rel => exact ⟨k + 1, by omega, by go_num, by rw [HN.out]; exact HS.out⟩
        case measure => simp [intOf]; omega
      · rw [hb] at hbit
        have HN : Hid (surv m [a0, a1, a2, a3, a4, a5, a6, a7] (L1.map mp) (k + 1) = (surv m [a0, a1, a2, a3, a4, a5, a6, a7] (L1.map mp) k).set q x.t) := Lib.hid (by rw [surv_succ m _ _ HXW.out, HK60.out, hb, if_pos rfl])
        clear hb
        go_wp2_with fail
        go_simp
        go_region
        go_wp2
        go_round
        case rel => exact ⟨k + 1, by omega, by go_num, by rw [HN.out, ← strs_set]; exact (HS.out.set q _).drew⟩
        case measure => simp [intOf]; omega
    · obtain rfl : k = k1 := by omega
      have hS1 := HS.out
      have hln : ((L1.map mp)).length = k := by rw [List.length_map]; exact HS1.out.1
      have hzz := Hz.out
      rw [hln] at hzz
      rw [hzz] at hS1
      clear HS
      have HS : Hid (St w1 wr w.heap.size D B (.slice none 0 0) v2 (mk [z0, z1, z2, z3, z4, z5, z6, z7] []) M #[.string z0, .string z1, .string z2, .string z3, .string z4, .string z5, .string z6, .string z7]) := Lib.hid hS1
      clear hS1 hln hzz hlt hk
      have c0 := HS.out.blk.cell 0
      have cf0 := HS.out.blk.frozen 0
      have c1 := HS.out.blk.cell 1
      have cf1 := HS.out.blk.frozen 1
      have c2 := HS.out.blk.cell 2
      have cf2 := HS.out.blk.frozen 2
      have c3 := HS.out.blk.cell 3
      have cf3 := HS.out.blk.frozen 3
      have c4 := HS.out.blk.cell 4
      have cf4 := HS.out.blk.frozen 4
      have c5 := HS.out.blk.cell 5
      have cf5 := HS.out.blk.frozen 5
      have c6 := HS.out.blk.cell 6
      have cf6 := HS.out.blk.frozen 6
      have c7 := HS.out.blk.cell 7
      have cf7 := HS.out.blk.frozen 7
      simp at c0 c1 c2 c3 c4 c5 c6 c7
      have cl := HS.out.blk.lt
      go_wp2_with fail
      clear cl c0 cf0 c1 cf1 c2 cf2 c3 cf3 c4 cf4 c5 cf5 c6 cf6 c7 cf7
      refine (is_mk2 (l := [z0, z1, z2, z3, z4, z5, z6, z7]) HS.out.left.rep rfl rfl rfl).mono ?_
      rintro e w2 ⟨rfl, v2, hL⟩
      have HS2 := Lib.hid (HS.out.step hL)
      clear HS hL
      have HS := HS2
      clear HS2
      go_wp2_with fail
      refine (AW.out _).mono ?_
      rintro e w3 ⟨rfl, hB3⟩
      go_wp2
      go_ret
      have hb := (HB.out.trans (HS.out.left.below HR.out (Nat.le_refl _) HB.out.size))
      exact ⟨rfl, hb.trans (hB3.mono hb.size)⟩
theorem walk (A0 : Option Addr) (k0 c0 : Nat) (L0 : List CR) (A1 : Option Addr) (k1 c1 : Nat) (L1 : List CR) (m : Int) (w : World) (lk0 : k0 ≤ maxLen) (lc0 : k0 ≤ c0) (lS0 : CRs w w.heap.size A0 k0 L0) (lL0 : ∀ r ∈ L0, okCR r) (lk1 : k1 ≤ maxLen) (lc1 : k1 ≤ c1) (lS1 : CRs w w.heap.size A1 k1 L1) (lL1 : ∀ r ∈ L1, okCR r) (hm : (Lit.int .u64 m).wf = true) :
    Calls Try.prog 4 #[.slice A0 k0 c0, .slice A1 k1 c1, .int .u64 m] w fun e w' => e = .returned (.bool true) ∧ Below w.heap.size w w' := by
  obtain ⟨h1, h2⟩ := u64_in hm
  obtain ⟨n, rfl⟩ : ∃ n : Nat, m = (n : Int) := ⟨m.toNat, by omega⟩
  exact walk0 A0 k0 c0 L0 A1 k1 c1 L1 n (by omega) w lk0 lc0 lS0 lL0 lk1 lc1 lS1 lL1

theorem own : ownKnob Try.prog.godebug = none := by kernel_rfl
theorem laidOut : laidOutB Try.prog = true := by kernel_rfl
set_option maxRecDepth 100000 in
theorem lifted (os : Os) (started : os.Started) (H : Type) (enc : TypeId × Value → H) :
    ReturnsInHanded {} Try.checked os 4 .any (Rows.diskCrashesSpec.pre6 enc Try.prog Try.f4 Rows.diskCrashesRow.domain false) (Rows.diskCrashesSpec.post enc Try.prog Try.f4 false true false false) := by
  refine returnsInHanded_of_change (C := Try.checked) own started (by kernel_rfl) Try.func4
    (ChangeSpec.witness6 (enc := enc) (C := Try.checked) false ⟨#[], #[.slice none 0 0, .slice none 0 0, .int .u64 0], []⟩ 8 (by kernel_rfl) (by kernel_rfl) (by kernel_rfl) (by kernel_rfl)) ?_
  intro W base args ds gs before hval0 hW hcnd _
  have hval : ∀ (j : Nat) t v, Try.f4.params[j]? = some t → args[j]? = some v → Value.okWide Try.prog W .any base t v := hval0
  have hW' := hW
  obtain ⟨p, q, hA0, hV, rfl, hfz, hnd⟩ := hW
  have hA : DataW.TrodAll enc Try.prog W 0 (fun _ => true) true Try.f4.params.toList args.toList ds p := hA0
  rw [Try.params4] at hA hval
  obtain ⟨v0, vs0, d0, ds0, p0, q0, hargs, rfl, rfl, h0, r0⟩ := trodAll_cons hA
  obtain ⟨v1, vs1, d1, ds1, p1, q1, rfl, rfl, rfl, h1, r1⟩ := trodAll_cons r0
  obtain ⟨v2, vs2, d2, ds2, p2, q2, rfl, rfl, rfl, h2, r2⟩ := trodAll_cons r1
  obtain ⟨rfl, rfl, rfl⟩ := trodAll_nil r2
  obtain rfl : args = #[v0, v1, v2] := by cases args; simp_all
  obtain ⟨rfl, rfl⟩ := trodVars_none hV
  have k0 := h0
  have lt0 : ∀ x ∈ p0, x.block < W.heap.size := by obtain ⟨m, hm⟩ := k0; exact DataW.trod_lt m _ _ _ hm
  obtain ⟨zA0, zk0, zc0, zL0, rfl, lk0, lc0, lS0, lL0⟩ := open_CRT (hval 0 38 v0 rfl rfl) h0
  have k1 := h1
  have lt1 : ∀ x ∈ p1, x.block < W.heap.size := by obtain ⟨m, hm⟩ := k1; exact DataW.trod_lt m _ _ _ hm
  obtain ⟨zA1, zk1, zc1, zL1, rfl, lk1, lc1, lS1, lL1⟩ := open_CRT (hval 1 38 v1 rfl rfl) h1
  have k2 := h2
  have lt2 : ∀ x ∈ p2, x.block < W.heap.size := by obtain ⟨m, hm⟩ := k2; exact DataW.trod_lt m _ _ _ hm
  obtain ⟨a2, rfl, -, -, w2⟩ := open_int Try.underlying33 (hval 2 33 v2 rfl rfl) h2
  clear hA0 hval0
  refine (walk zA0 zk0 zc0 zL0 zA1 zk1 zc1 zL1 a2 W lk0 lc0 lS0 lL0 lk1 lc1 lS1 lL1 w2).mono fun e W' ⟨he, bel⟩ => ?_
  subst he
  exact ⟨_, rfl, _, _, _, [], _, [], hW', trodAll_mk1 (shut_bool Try.underlying4 _), (trodAll_cons_mk (Below.trod laidOut (by kernel_rfl) (of_decide_eq_true (by kernel_rfl)) k0 bel lt0) (trodAll_cons_mk (Below.trod laidOut (by kernel_rfl) (of_decide_eq_true (by kernel_rfl)) k1 bel lt1) (trodAll_cons_mk (Below.trod laidOut (by kernel_rfl) (of_decide_eq_true (by kernel_rfl)) k2 bel lt2) trodAll_mk0))), rfl, bel.frame _, fun h => by cases h⟩

theorem over : Rows.diskCrashesRow.holds Try.pinned (OpenSpec.ofChange Rows.diskCrashesSpec) :=
  OpenClaim.holds_of_wide 4 Try.f4 rfl rfl rfl rfl rfl rfl rfl ⟨rfl, rfl, rfl, rfl, rfl⟩ rfl rfl rfl rfl rfl (by kernel_rfl) Try.func4 (by kernel_rfl)
    (of_decide_eq_true (by kernel_rfl)) (by unfold Func.isWrapper; first | (rw [if_pos (by decide +kernel)]; kernel_rfl) | (rw [if_neg (by decide +kernel)]; exact ⟨rfl, rfl⟩))
    (fun os started H enc _ => lifted os started H enc)
/-- THE STATEMENT. -/
theorem proved : Rows.DiskCrashesSaid := over
#print axioms proved
end Go.Proofs.Ytkfiekpinojahaa.diskCrashes
