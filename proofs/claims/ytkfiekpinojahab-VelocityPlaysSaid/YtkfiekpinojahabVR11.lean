/-
  THE WALK of VelocityPlays.
-/
import Derived.Test.YtkfiekpinojahabVR10
import Derived.ChangeSlices
import Derived.Test.YtkfiekpinojahabRows
import Derived.WalkKit
import Derived.ProofKit
import Derived.OpenShut
import Derived.ShutString
import Derived.ChangeOld
import Derived.Below
namespace Go.Proofs.Ytkfiekpinojahab.velocityPlays
open Go.ChangeShapes Go.WideShapes Go.ChangeAt Go.RowKit
open Go.ChangeMaps (open_string shut_string)
set_option linter.unusedVariables false
def PlayP (w0 W' : World) (K D E : Nat) : Prop := ∃ v' u' s', Pair w0 W' K D E v' u' s' ∧ R.Inv s'
set_option maxHeartbeats 6400000 in
set_option maxRecDepth 5000 in
theorem walk (nb : Int) (A0 : Option Addr) (k0 c0 : Nat) (L0 : List SR) (w : World) (wn : (Lit.int .i64 nb).wf = true) (lk0 : k0 ≤ maxLen) (lc0 : k0 ≤ c0) (lS0 : SRs w w.heap.size A0 k0 L0) (lL0 : ∀ r ∈ L0, okSR r) :
    Calls Try.prog 3 #[.int .i64 nb, .slice A0 k0 c0] w fun e w' => e = .returned (.bool true) ∧ Below w.heap.size w w' := by
  have AW := Lib.hid awake_any
  have HS0 := Lib.hid lS0
  have HL0 := Lib.hid lL0
  have HKL := Lib.hid lk0
  clear wn lc0 lS0 lL0
  go_enter Try.func3, Try.ntmps3
  by_cases h80 : 80 < k0
  · have hd : decide ((80 : Int) < (k0 : Int)) = true := decide_eq_true (by omega)
    go_wp2_with fail
    refine (AW.out _).mono ?_
    rintro e w3 ⟨rfl, hB3⟩
    go_wp2
    go_ret
    exact ⟨rfl, hB3⟩
  have P0 := Lib.hid (show k0 ≤ 80 by omega)
  have hd : decide ((80 : Int) < (k0 : Int)) = false := decide_eq_false (by omega)
  clear h80 lk0
  go_wp2_with fail
  clear hd
  by_cases hbad : nb < 1 ∨ 10000000 < nb
  · refine (P.new_bad nb hbad w).mono ?_
    rintro e w1 ⟨rfl, rfl⟩
    go_wp2_with fail
    refine (R.new_bad nb hbad w).mono ?_
    rintro e w1 ⟨rfl, rfl⟩
    clear hbad
    go_wp2_with fail
    go_loopw [9] (fun i wr => ∃ k : Nat, k ≤ k0 ∧ i = .int .i64 (k : Int) ∧ Below w.heap.size w wr) (fun i _ => k0 - (intOf i).toNat)
    case atStart => exact ⟨0, by omega, rfl, Below.refl _ _⟩
    case round =>
      obtain ⟨k, hk, rfl, hB⟩ := hrel
      have HB := Lib.hid hB
      by_cases hlt : k < k0
      · obtain ⟨ad, x, p, rfl, hx, hp, hpb, q0, q1, q2, q3, q4⟩ := SRs.at (HS0.out.below hB) hlt
        have hok := HL0.out x (List.mem_of_getElem? hx)
        obtain ⟨u1, u2⟩ := u8_in hok.1
        obtain ⟨cN, hcN⟩ : ∃ c : Nat, x.c = (c : Int) := ⟨x.c.toNat, by omega⟩
        rw [hcN] at q0
        have hk80 : k < 80 := by have := P0.out; omega
        have hpl : p.block < wr.heap.size := by have := hB.size; omega
        have hks : x.k.size ≤ maxLen := hok.2.1
        clear hB hx hpb hok u1 hcN
        by_cases hkey : 100 < x.k.size
        · have hd : decide ((100 : Int) < (x.k.size : Int)) = true := decide_eq_true (by omega)
          go_wp2_with fail
          refine (AW.out _).mono ?_
          rintro e w3 ⟨rfl, hB3⟩
          go_wp2
          go_ret
          exact ⟨rfl, Below.trans (HB.out.alloc HB.out.size _) (hB3.mono (HB.out.alloc HB.out.size _).size)⟩
        have hd : decide ((100 : Int) < (x.k.size : Int)) = false := decide_eq_false (by omega)
        rcases (show cN = 0 ∨ cN = 1 ∨ cN = 2 ∨ cN = 3 ∨ 4 ≤ cN by omega) with rfl | rfl | rfl | rfl | h4
        · go_wp2_with fail
          have hX : Blk (wr.alloc (.cells #[.int .u8 0, .string x.k, .int .i64 x.a, .int .i64 x.m, .int .i64 x.n] 32)) wr.heap.size 32 #[.int .u8 0, .string x.k, .int .i64 x.a, .int .i64 x.m, .int .i64 x.n] := Blk.new _ _ _
          have HB4 : Hid (Below w.heap.size w (wr.alloc (.cells #[.int .u8 0, .string x.k, .int .i64 x.a, .int .i64 x.m, .int .i64 x.n] 32))) := Lib.hid (HB.out.alloc HB.out.size _)
          generalize wr.alloc (.cells #[.int .u8 0, .string x.k, .int .i64 x.a, .int .i64 x.m, .int .i64 x.n] 32) = V, wr.heap.size = X at *
          have e1 := hX.cell 1
          have e2 := hX.cell 2
          have e3 := hX.cell 3
          have e4 := hX.cell 4
          simp at e1 e2 e3 e4
          have xl := hX.lt
          clear hX
          go_region_held3 (fun W => W.cell? ⟨X, 1, none⟩ = some (.string x.k) ∧ W.cell? ⟨X, 2, none⟩ = some (.int .i64 x.a) ∧ W.cell? ⟨X, 3, none⟩ = some (.int .i64 x.m)) (exact ⟨by assumption, by assumption, by assumption⟩) (first | (go_at_call 10; refine (P_add_nil _ _ _ _).mono ?_; rintro e w3 ⟨rfl, rfl⟩) | (go_at_call 11; refine (R_add_nil _ _ _ _).mono ?_; rintro e w3 ⟨rfl, rfl⟩))
          go_wp2_with fail
          refine (P_len_nil _).mono ?_
          rintro e w5 ⟨rfl, rfl⟩
          go_wp2_with fail
          refine (R_len_nil _).mono ?_
          rintro e w6 ⟨rfl, rfl⟩
          go_wp2_with fail
          go_round
          case rel => exact ⟨k + 1, by omega, by go_num, by first | exact HB4.out | exact HB4.out.drew⟩
          case measure => simp [intOf]; omega
        · go_wp2_with fail
          have hX : Blk (wr.alloc (.cells #[.int .u8 1, .string x.k, .int .i64 x.a, .int .i64 x.m, .int .i64 x.n] 32)) wr.heap.size 32 #[.int .u8 1, .string x.k, .int .i64 x.a, .int .i64 x.m, .int .i64 x.n] := Blk.new _ _ _
          have HB4 : Hid (Below w.heap.size w (wr.alloc (.cells #[.int .u8 1, .string x.k, .int .i64 x.a, .int .i64 x.m, .int .i64 x.n] 32))) := Lib.hid (HB.out.alloc HB.out.size _)
          generalize wr.alloc (.cells #[.int .u8 1, .string x.k, .int .i64 x.a, .int .i64 x.m, .int .i64 x.n] 32) = V, wr.heap.size = X at *
          have e1 := hX.cell 1
          have e2 := hX.cell 2
          have e3 := hX.cell 3
          have e4 := hX.cell 4
          simp at e1 e2 e3 e4
          have xl := hX.lt
          clear hX
          go_region_held3 (fun W => W.cell? ⟨X, 1, none⟩ = some (.string x.k) ∧ W.cell? ⟨X, 2, none⟩ = some (.int .i64 x.a) ∧ W.cell? ⟨X, 3, none⟩ = some (.int .i64 x.m)) (exact ⟨by assumption, by assumption, by assumption⟩) (first | (go_at_call 12; refine (P_rem_nil _ _ _ _).mono ?_; rintro e w3 ⟨rfl, rfl⟩) | (go_at_call 13; refine (R_rem_nil _ _ _ _).mono ?_; rintro e w3 ⟨rfl, rfl⟩))
          go_wp2_with fail
          refine (P_len_nil _).mono ?_
          rintro e w5 ⟨rfl, rfl⟩
          go_wp2_with fail
          refine (R_len_nil _).mono ?_
          rintro e w6 ⟨rfl, rfl⟩
          go_wp2_with fail
          go_round
          case rel => exact ⟨k + 1, by omega, by go_num, by first | exact HB4.out | exact HB4.out.drew⟩
          case measure => simp [intOf]; omega
        · go_wp2_with fail
          have hX : Blk (wr.alloc (.cells #[.int .u8 2, .string x.k, .int .i64 x.a, .int .i64 x.m, .int .i64 x.n] 32)) wr.heap.size 32 #[.int .u8 2, .string x.k, .int .i64 x.a, .int .i64 x.m, .int .i64 x.n] := Blk.new _ _ _
          have HB4 : Hid (Below w.heap.size w (wr.alloc (.cells #[.int .u8 2, .string x.k, .int .i64 x.a, .int .i64 x.m, .int .i64 x.n] 32))) := Lib.hid (HB.out.alloc HB.out.size _)
          generalize wr.alloc (.cells #[.int .u8 2, .string x.k, .int .i64 x.a, .int .i64 x.m, .int .i64 x.n] 32) = V, wr.heap.size = X at *
          have e1 := hX.cell 1
          have e2 := hX.cell 2
          have e3 := hX.cell 3
          have e4 := hX.cell 4
          simp at e1 e2 e3 e4
          have xl := hX.lt
          clear hX
          go_region_held3 (fun W => W.cell? ⟨X, 1, none⟩ = some (.string x.k) ∧ W.cell? ⟨X, 2, none⟩ = some (.int .i64 x.a) ∧ W.cell? ⟨X, 4, none⟩ = some (.int .i64 x.n)) (exact ⟨by assumption, by assumption, by assumption⟩) (first | (go_at_call 14; refine (P_count_nil _ _ _ _).mono ?_; rintro e w3 ⟨rfl, rfl⟩) | (go_at_call 15; refine (R_count_nil _ _ _ _).mono ?_; rintro e w3 ⟨rfl, rfl⟩) | (go_at_call 16; refine (P_sum_nil _ _ _ _).mono ?_; rintro e w3 ⟨rfl, rfl⟩) | (go_at_call 17; refine (R_sum_nil _ _ _ _).mono ?_; rintro e w3 ⟨rfl, rfl⟩))
          go_wp2_with fail
          refine (P_len_nil _).mono ?_
          rintro e w5 ⟨rfl, rfl⟩
          go_wp2_with fail
          refine (R_len_nil _).mono ?_
          rintro e w6 ⟨rfl, rfl⟩
          go_wp2_with fail
          go_round
          case rel => exact ⟨k + 1, by omega, by go_num, by first | exact HB4.out | exact HB4.out.drew⟩
          case measure => simp [intOf]; omega
        · go_wp2_with fail
          have hX : Blk (wr.alloc (.cells #[.int .u8 3, .string x.k, .int .i64 x.a, .int .i64 x.m, .int .i64 x.n] 32)) wr.heap.size 32 #[.int .u8 3, .string x.k, .int .i64 x.a, .int .i64 x.m, .int .i64 x.n] := Blk.new _ _ _
          have HB4 : Hid (Below w.heap.size w (wr.alloc (.cells #[.int .u8 3, .string x.k, .int .i64 x.a, .int .i64 x.m, .int .i64 x.n] 32))) := Lib.hid (HB.out.alloc HB.out.size _)
          generalize wr.alloc (.cells #[.int .u8 3, .string x.k, .int .i64 x.a, .int .i64 x.m, .int .i64 x.n] 32) = V, wr.heap.size = X at *
          have e1 := hX.cell 1
          have e2 := hX.cell 2
          have e3 := hX.cell 3
          have e4 := hX.cell 4
          simp at e1 e2 e3 e4
          have xl := hX.lt
          clear hX
          go_region_held3 (fun W => W.cell? ⟨X, 2, none⟩ = some (.int .i64 x.a)) (assumption) (first | (go_at_call 18; refine (P_forget_nil _ _).mono ?_; rintro e w3 ⟨rfl, rfl⟩) | (go_at_call 19; refine (R_forget_nil _ _).mono ?_; rintro e w3 ⟨rfl, rfl⟩))
          go_wp2_with fail
          refine (P_len_nil _).mono ?_
          rintro e w5 ⟨rfl, rfl⟩
          go_wp2_with fail
          refine (R_len_nil _).mono ?_
          rintro e w6 ⟨rfl, rfl⟩
          go_wp2_with fail
          go_round
          case rel => exact ⟨k + 1, by omega, by go_num, by first | exact HB4.out | exact HB4.out.drew⟩
          case measure => simp [intOf]; omega
        · have z0 : ((cN : Int) == 0) = false := beq_false_of_ne (by omega)
          have z1 : ((cN : Int) == 1) = false := beq_false_of_ne (by omega)
          have z2 : ((cN : Int) == 2) = false := beq_false_of_ne (by omega)
          have z3 : ((cN : Int) == 3) = false := beq_false_of_ne (by omega)
          go_wp2_with fail
          clear z0 z1 z2 z3
          have hX : Blk (wr.alloc (.cells #[.int .u8 (cN : Int), .string x.k, .int .i64 x.a, .int .i64 x.m, .int .i64 x.n] 32)) wr.heap.size 32 #[.int .u8 (cN : Int), .string x.k, .int .i64 x.a, .int .i64 x.m, .int .i64 x.n] := Blk.new _ _ _
          have HB4 : Hid (Below w.heap.size w (wr.alloc (.cells #[.int .u8 (cN : Int), .string x.k, .int .i64 x.a, .int .i64 x.m, .int .i64 x.n] 32))) := Lib.hid (HB.out.alloc HB.out.size _)
          generalize wr.alloc (.cells #[.int .u8 (cN : Int), .string x.k, .int .i64 x.a, .int .i64 x.m, .int .i64 x.n] 32) = V, wr.heap.size = X at *
          have e1 := hX.cell 1
          have e2 := hX.cell 2
          have e3 := hX.cell 3
          have e4 := hX.cell 4
          simp at e1 e2 e3 e4
          have xl := hX.lt
          clear hX
          go_wp2_with fail
          refine (P_last_nil _ _).mono ?_
          rintro e w3 ⟨rfl, rfl⟩
          go_wp2_with fail
          refine (R_last_nil _ _).mono ?_
          rintro e w3 ⟨rfl, rfl⟩
          go_wp2_with fail
          refine (P_len_nil _).mono ?_
          rintro e w5 ⟨rfl, rfl⟩
          go_wp2_with fail
          refine (R_len_nil _).mono ?_
          rintro e w6 ⟨rfl, rfl⟩
          go_wp2_with fail
          go_round
          case rel => exact ⟨k + 1, by omega, by go_num, by first | exact HB4.out | exact HB4.out.drew⟩
          case measure => simp [intOf]; omega
      · obtain rfl : k = k0 := by omega
        clear hB
        go_wp2_with fail
        refine (AW.out _).mono ?_
        rintro e w3 ⟨rfl, hB3⟩
        go_wp2
        go_ret
        exact ⟨rfl, HB.out.trans (hB3.mono HB.out.size)⟩
  obtain ⟨n, rfl⟩ : ∃ n : Nat, nb = (n : Int) := ⟨nb.toNat, by omega⟩
  have HN := Lib.hid (show 1 ≤ n ∧ n ≤ 10000000 by omega)
  clear hbad
  refine (new_any n HN.out.1 HN.out.2 w (K := w.heap.size) (Nat.le_refl _)).mono ?_
  rintro e w1 ⟨D, rfl, hr, hB⟩
  have HR := Lib.hid hr
  have HB := Lib.hid hB
  clear hr hB
  go_wp2_with fail
  refine (R.new_any n HN.out.1 HN.out.2 w1 (Nat.le_refl _)).mono ?_
  rintro e w2 ⟨E, rfl, hr, hB⟩
  have hpair : Pair w2 w2 w.heap.size D E (.slice none 0 0) (.slice none 0 0) (newS n) := ⟨HR.out.kp (S := fun _ => False) (Kp.of (hB.mono (Nat.le_refl _))) (fun _ _ h => h), R.Rep.mono hr HB.out.size, Kp.refl _ _, fun i hi ho => by
    have h1 := (HR.out.lt hi).2
    have h2 := (hr.lt ho).1
    omega⟩
  have HP0 := Lib.hid hpair
  have HB2 := Lib.hid (HB.out.trans (hB.mono HB.out.size))
  clear hr hB hpair
  go_wp2_with fail
  go_loopw [9] (fun i wr => ∃ k : Nat, k ≤ k0 ∧ i = .int .i64 (k : Int) ∧ PlayP w2 wr w.heap.size D E) (fun i _ => k0 - (intOf i).toNat)
  case atStart => exact ⟨0, by omega, rfl, _, _, _, HP0.out, R.Inv.new _⟩
  case round =>
    obtain ⟨k, hk, rfl, v, u, s, hpr, hinv⟩ := hrel
    have hB : Below w.heap.size w wr := HB2.out.trans (hpr.kp.below (fun i hi => by omega) HB2.out.size)
    have HB := Lib.hid hB
    have HP := Lib.hid hpr
    have HI := Lib.hid hinv
    clear hpr hinv
    by_cases hlt : k < k0
    · obtain ⟨ad, x, p, rfl, hx, hp, hpb, q0, q1, q2, q3, q4⟩ := SRs.at (HS0.out.below hB) hlt
      have hok := HL0.out x (List.mem_of_getElem? hx)
      obtain ⟨u1, u2⟩ := u8_in hok.1
      obtain ⟨cN, hcN⟩ : ∃ c : Nat, x.c = (c : Int) := ⟨x.c.toNat, by omega⟩
      rw [hcN] at q0
      have hk80 : k < 80 := by have := P0.out; omega
      have hpl : p.block < wr.heap.size := by have := hB.size; omega
      have hks : x.k.size ≤ maxLen := hok.2.1
      clear hB hx hpb hok u1 hcN
      by_cases hkey : 100 < x.k.size
      · have hd : decide ((100 : Int) < (x.k.size : Int)) = true := decide_eq_true (by omega)
        go_wp2_with fail
        refine (AW.out _).mono ?_
        rintro e w3 ⟨rfl, hB3⟩
        go_wp2
        go_ret
        exact ⟨rfl, Below.trans (HB.out.alloc HB.out.size _) (hB3.mono (HB.out.alloc HB.out.size _).size)⟩
      have hd : decide ((100 : Int) < (x.k.size : Int)) = false := decide_eq_false (by omega)
      rcases (show cN = 0 ∨ cN = 1 ∨ cN = 2 ∨ cN = 3 ∨ 4 ≤ cN by omega) with rfl | rfl | rfl | rfl | h4
      · go_wp2_with fail
        have HKEY := Lib.hid (show x.k.size ≤ 100 by omega)
        have hX : Blk (wr.alloc (.cells #[.int .u8 0, .string x.k, .int .i64 x.a, .int .i64 x.m, .int .i64 x.n] 32)) wr.heap.size 32 #[.int .u8 0, .string x.k, .int .i64 x.a, .int .i64 x.m, .int .i64 x.n] := Blk.new _ _ _
        have hP := (HP.out.two.alloc (.cells #[.int .u8 0, .string x.k, .int .i64 x.a, .int .i64 x.m, .int .i64 x.n] 32)).one rfl
        have NX : Hid (¬ Own D v wr.heap.size) := Lib.hid (fun ho => by have := (HP.out.ra.lt ho).2; omega)
        have NY : Hid (¬ Own E u wr.heap.size) := Lib.hid (fun ho => by have := (HP.out.rb.lt ho).2; omega)
        generalize wr.alloc (.cells #[.int .u8 0, .string x.k, .int .i64 x.a, .int .i64 x.m, .int .i64 x.n] 32) = V, wr.heap.size = X at *
        have XD : Hid (Blk V.drew X 32 _) := Lib.hid hX.drew
        have PD := Lib.hid ((hP.two.drew).one rfl)
        have PV := Lib.hid hP
        have XV := Lib.hid hX
        have e1 := hX.cell 1
        have e2 := hX.cell 2
        have e3 := hX.cell 3
        have e4 := hX.cell 4
        simp at e1 e2 e3 e4
        have xl := hX.lt
        clear hX hP
        obtain ⟨z, hz⟩ : ∃ z : Int, addE s x.k x.a x.m = z := ⟨_, rfl⟩
        have HC := Lib.hid hz
        clear hz
        go_region_held3 (fun W => W.cell? ⟨X, 1, none⟩ = some (.string x.k) ∧ W.cell? ⟨X, 2, none⟩ = some (.int .i64 x.a) ∧ W.cell? ⟨X, 3, none⟩ = some (.int .i64 x.m)) (exact ⟨by assumption, by assumption, by assumption⟩) (first | (go_at_call 10; refine (addA PD.out HKEY.out HC.out).mono ?_; rintro e w3 ⟨rfl, hQ⟩; obtain ⟨v3, hL, hK⟩ := hQ; have PA := Lib.hid hL; have X3 := Lib.hid (hK.blk XD.out NX.out); have xl3 := X3.out.lt; have e1 := X3.out.cell 1; have e2 := X3.out.cell 2; have e3 := X3.out.cell 3; simp at e1 e2 e3; clear hL hK) | (go_at_call 11; refine (addB PA.out HI.out HC.out).mono ?_; rintro e w4 ⟨rfl, hQ⟩; obtain ⟨u4, hL, hK⟩ := hQ; have PB := Lib.hid hL; have X4 := Lib.hid (hK.blk X3.out NY.out); have xl3 := X4.out.lt; have e1 := X4.out.cell 1; have e2 := X4.out.cell 2; have e3 := X4.out.cell 3; simp at e1 e2 e3; clear hL hK))
        have HI2 := Lib.hid (R.Inv.add HI.out x.k x.a x.m)
        go_wp2_with fail
        refine (lenA PB.out rfl).mono ?_
        rintro e w5 ⟨rfl, hL, -⟩
        have PC := Lib.hid hL
        clear hL
        go_wp2_with fail
        refine (lenB PC.out rfl).mono ?_
        rintro e w6 ⟨rfl, hL, -⟩
        have PE := Lib.hid hL
        clear hL
        go_wp2_with fail
        go_round
        case rel => exact ⟨k + 1, by omega, by go_num, _, _, _, PE.out, HI2.out⟩
        case measure => simp [intOf]; omega
      · go_wp2_with fail
        have HKEY := Lib.hid (show x.k.size ≤ 100 by omega)
        have hX : Blk (wr.alloc (.cells #[.int .u8 1, .string x.k, .int .i64 x.a, .int .i64 x.m, .int .i64 x.n] 32)) wr.heap.size 32 #[.int .u8 1, .string x.k, .int .i64 x.a, .int .i64 x.m, .int .i64 x.n] := Blk.new _ _ _
        have hP := (HP.out.two.alloc (.cells #[.int .u8 1, .string x.k, .int .i64 x.a, .int .i64 x.m, .int .i64 x.n] 32)).one rfl
        have NX : Hid (¬ Own D v wr.heap.size) := Lib.hid (fun ho => by have := (HP.out.ra.lt ho).2; omega)
        have NY : Hid (¬ Own E u wr.heap.size) := Lib.hid (fun ho => by have := (HP.out.rb.lt ho).2; omega)
        generalize wr.alloc (.cells #[.int .u8 1, .string x.k, .int .i64 x.a, .int .i64 x.m, .int .i64 x.n] 32) = V, wr.heap.size = X at *
        have XD : Hid (Blk V.drew X 32 _) := Lib.hid hX.drew
        have PD := Lib.hid ((hP.two.drew).one rfl)
        have PV := Lib.hid hP
        have XV := Lib.hid hX
        have e1 := hX.cell 1
        have e2 := hX.cell 2
        have e3 := hX.cell 3
        have e4 := hX.cell 4
        simp at e1 e2 e3 e4
        have xl := hX.lt
        clear hX hP
        go_region_held3 (fun W => W.cell? ⟨X, 1, none⟩ = some (.string x.k) ∧ W.cell? ⟨X, 2, none⟩ = some (.int .i64 x.a) ∧ W.cell? ⟨X, 3, none⟩ = some (.int .i64 x.m)) (exact ⟨by assumption, by assumption, by assumption⟩) (first | (go_at_call 12; refine (remA PD.out).mono ?_; rintro e w3 ⟨us2, c2, v3, rfl, hRP, hL, hK⟩; have HRP := Lib.hid hRP; clear hRP; have PA := Lib.hid hL; have X3 := Lib.hid (hK.blk XD.out NX.out); have xl3 := X3.out.lt; have e1 := X3.out.cell 1; have e2 := X3.out.cell 2; have e3 := X3.out.cell 3; simp at e1 e2 e3; clear hL hK) | (go_at_call 13; refine (remB PA.out HRP.out).mono ?_; rintro e w4 ⟨rfl, hQ⟩; obtain ⟨u4, hL, hK⟩ := hQ; have PB := Lib.hid hL; have X4 := Lib.hid (hK.blk X3.out NY.out); have xl3 := X4.out.lt; have e1 := X4.out.cell 1; have e2 := X4.out.cell 2; have e3 := X4.out.cell 3; simp at e1 e2 e3; clear hL hK))
        have HI2 := Lib.hid (R.Inv.rem HI.out HRP.out)
        go_wp2_with fail
        refine (lenA PB.out rfl).mono ?_
        rintro e w5 ⟨rfl, hL, -⟩
        have PC := Lib.hid hL
        clear hL
        go_wp2_with fail
        refine (lenB PC.out rfl).mono ?_
        rintro e w6 ⟨rfl, hL, -⟩
        have PE := Lib.hid hL
        clear hL
        go_wp2_with fail
        go_round
        case rel => exact ⟨k + 1, by omega, by go_num, _, _, _, PE.out, HI2.out⟩
        case measure => simp [intOf]; omega
      · go_wp2_with fail
        have HKEY := Lib.hid (show x.k.size ≤ 100 by omega)
        have hX : Blk (wr.alloc (.cells #[.int .u8 2, .string x.k, .int .i64 x.a, .int .i64 x.m, .int .i64 x.n] 32)) wr.heap.size 32 #[.int .u8 2, .string x.k, .int .i64 x.a, .int .i64 x.m, .int .i64 x.n] := Blk.new _ _ _
        have hP := (HP.out.two.alloc (.cells #[.int .u8 2, .string x.k, .int .i64 x.a, .int .i64 x.m, .int .i64 x.n] 32)).one rfl
        have NX : Hid (¬ Own D v wr.heap.size) := Lib.hid (fun ho => by have := (HP.out.ra.lt ho).2; omega)
        have NY : Hid (¬ Own E u wr.heap.size) := Lib.hid (fun ho => by have := (HP.out.rb.lt ho).2; omega)
        generalize wr.alloc (.cells #[.int .u8 2, .string x.k, .int .i64 x.a, .int .i64 x.m, .int .i64 x.n] 32) = V, wr.heap.size = X at *
        have XD : Hid (Blk V.drew X 32 _) := Lib.hid hX.drew
        have PD := Lib.hid ((hP.two.drew).one rfl)
        have PV := Lib.hid hP
        have XV := Lib.hid hX
        have e1 := hX.cell 1
        have e2 := hX.cell 2
        have e3 := hX.cell 3
        have e4 := hX.cell 4
        simp at e1 e2 e3 e4
        have xl := hX.lt
        clear hX hP
        obtain ⟨z, hz⟩ : ∃ z : Int, ((wG s x.k x.a x.n).length : Int) = z := ⟨_, rfl⟩
        have HC := Lib.hid hz
        clear hz
        obtain ⟨y, hy⟩ : ∃ z : Int, sumU (wG s x.k x.a x.n) = z := ⟨_, rfl⟩
        have HD := Lib.hid hy
        clear hy
        go_region_held3 (fun W => W.cell? ⟨X, 1, none⟩ = some (.string x.k) ∧ W.cell? ⟨X, 2, none⟩ = some (.int .i64 x.a) ∧ W.cell? ⟨X, 4, none⟩ = some (.int .i64 x.n)) (exact ⟨by assumption, by assumption, by assumption⟩) (first | (go_at_call 14; refine (cntA PD.out HC.out).mono ?_; rintro e w3 ⟨rfl, hL, hK⟩; have PA := Lib.hid hL; have X3 := Lib.hid (hK.blk XD.out NX.out); have xl3 := X3.out.lt; have e1 := X3.out.cell 1; have e2 := X3.out.cell 2; have e4 := X3.out.cell 4; simp at e1 e2 e4; clear hL hK) | (go_at_call 15; refine (cntB PA.out HC.out).mono ?_; rintro e w3 ⟨rfl, hL, hK⟩; have PF := Lib.hid hL; have X5 := Lib.hid (hK.blk X3.out NY.out); have xl3 := X5.out.lt; have e1 := X5.out.cell 1; have e2 := X5.out.cell 2; have e4 := X5.out.cell 4; simp at e1 e2 e4; clear hL hK) | (go_at_call 16; refine (sumA PF.out HD.out).mono ?_; rintro e w3 ⟨rfl, hL, hK⟩; have PG := Lib.hid hL; have X6 := Lib.hid (hK.blk X5.out NX.out); have xl3 := X6.out.lt; have e1 := X6.out.cell 1; have e2 := X6.out.cell 2; have e4 := X6.out.cell 4; simp at e1 e2 e4; clear hL hK) | (go_at_call 17; refine (sumB PG.out HD.out).mono ?_; rintro e w3 ⟨rfl, hL, hK⟩; have PB := Lib.hid hL; have X7 := Lib.hid (hK.blk X6.out NY.out); have xl3 := X7.out.lt; have e1 := X7.out.cell 1; have e2 := X7.out.cell 2; have e4 := X7.out.cell 4; simp at e1 e2 e4; clear hL hK))
        have HI2 := Lib.hid HI.out
        go_wp2_with fail
        refine (lenA PB.out rfl).mono ?_
        rintro e w5 ⟨rfl, hL, -⟩
        have PC := Lib.hid hL
        clear hL
        go_wp2_with fail
        refine (lenB PC.out rfl).mono ?_
        rintro e w6 ⟨rfl, hL, -⟩
        have PE := Lib.hid hL
        clear hL
        go_wp2_with fail
        go_round
        case rel => exact ⟨k + 1, by omega, by go_num, _, _, _, PE.out, HI2.out⟩
        case measure => simp [intOf]; omega
      · go_wp2_with fail
        have HKEY := Lib.hid (show x.k.size ≤ 100 by omega)
        have hX : Blk (wr.alloc (.cells #[.int .u8 3, .string x.k, .int .i64 x.a, .int .i64 x.m, .int .i64 x.n] 32)) wr.heap.size 32 #[.int .u8 3, .string x.k, .int .i64 x.a, .int .i64 x.m, .int .i64 x.n] := Blk.new _ _ _
        have hP := (HP.out.two.alloc (.cells #[.int .u8 3, .string x.k, .int .i64 x.a, .int .i64 x.m, .int .i64 x.n] 32)).one rfl
        have NX : Hid (¬ Own D v wr.heap.size) := Lib.hid (fun ho => by have := (HP.out.ra.lt ho).2; omega)
        have NY : Hid (¬ Own E u wr.heap.size) := Lib.hid (fun ho => by have := (HP.out.rb.lt ho).2; omega)
        generalize wr.alloc (.cells #[.int .u8 3, .string x.k, .int .i64 x.a, .int .i64 x.m, .int .i64 x.n] 32) = V, wr.heap.size = X at *
        have XD : Hid (Blk V.drew X 32 _) := Lib.hid hX.drew
        have PD := Lib.hid ((hP.two.drew).one rfl)
        have PV := Lib.hid hP
        have XV := Lib.hid hX
        have e1 := hX.cell 1
        have e2 := hX.cell 2
        have e3 := hX.cell 3
        have e4 := hX.cell 4
        simp at e1 e2 e3 e4
        have xl := hX.lt
        clear hX hP
        obtain ⟨z, hz⟩ : ∃ z : Nat, forN s x.a = z := ⟨_, rfl⟩
        have HC := Lib.hid hz
        clear hz
        go_region_held3 (fun W => W.cell? ⟨X, 2, none⟩ = some (.int .i64 x.a)) (assumption) (first | (go_at_call 18; refine (forA PD.out HC.out).mono ?_; rintro e w3 ⟨rfl, hQ⟩; obtain ⟨v3, hL, hK⟩ := hQ; have PA := Lib.hid hL; have X3 := Lib.hid (hK.blk XD.out NX.out); have xl3 := X3.out.lt; have e2 := X3.out.cell 2; simp at e2; clear hL hK) | (go_at_call 19; refine (forB PA.out HI.out HC.out).mono ?_; rintro e w4 ⟨rfl, hQ⟩; obtain ⟨u4, hL, hK⟩ := hQ; have PB := Lib.hid hL; have X4 := Lib.hid (hK.blk X3.out NY.out); have xl3 := X4.out.lt; have e2 := X4.out.cell 2; simp at e2; clear hL hK))
        have HI2 := Lib.hid (R.Inv.forget HI.out z)
        go_wp2_with fail
        refine (lenA PB.out rfl).mono ?_
        rintro e w5 ⟨rfl, hL, -⟩
        have PC := Lib.hid hL
        clear hL
        go_wp2_with fail
        refine (lenB PC.out rfl).mono ?_
        rintro e w6 ⟨rfl, hL, -⟩
        have PE := Lib.hid hL
        clear hL
        go_wp2_with fail
        go_round
        case rel => exact ⟨k + 1, by omega, by go_num, _, _, _, PE.out, HI2.out⟩
        case measure => simp [intOf]; omega
      · have HKEY := Lib.hid (show x.k.size ≤ 100 by omega)
        have z0 : ((cN : Int) == 0) = false := beq_false_of_ne (by omega)
        have z1 : ((cN : Int) == 1) = false := beq_false_of_ne (by omega)
        have z2 : ((cN : Int) == 2) = false := beq_false_of_ne (by omega)
        have z3 : ((cN : Int) == 3) = false := beq_false_of_ne (by omega)
        go_wp2_with fail
        clear z0 z1 z2 z3
        have hX : Blk (wr.alloc (.cells #[.int .u8 (cN : Int), .string x.k, .int .i64 x.a, .int .i64 x.m, .int .i64 x.n] 32)) wr.heap.size 32 #[.int .u8 (cN : Int), .string x.k, .int .i64 x.a, .int .i64 x.m, .int .i64 x.n] := Blk.new _ _ _
        have hP := (HP.out.two.alloc (.cells #[.int .u8 (cN : Int), .string x.k, .int .i64 x.a, .int .i64 x.m, .int .i64 x.n] 32)).one rfl
        have NX : Hid (¬ Own D v wr.heap.size) := Lib.hid (fun ho => by have := (HP.out.ra.lt ho).2; omega)
        have NY : Hid (¬ Own E u wr.heap.size) := Lib.hid (fun ho => by have := (HP.out.rb.lt ho).2; omega)
        generalize wr.alloc (.cells #[.int .u8 (cN : Int), .string x.k, .int .i64 x.a, .int .i64 x.m, .int .i64 x.n] 32) = V, wr.heap.size = X at *
        have XD : Hid (Blk V.drew X 32 _) := Lib.hid hX.drew
        have PD := Lib.hid ((hP.two.drew).one rfl)
        have PV := Lib.hid hP
        have XV := Lib.hid hX
        have e1 := hX.cell 1
        have e2 := hX.cell 2
        have e3 := hX.cell 3
        have e4 := hX.cell 4
        simp at e1 e2 e3 e4
        have xl := hX.lt
        clear hX hP
        obtain ⟨la, lb, hla⟩ : ∃ z y, lastS s.us x.k = (z, y) := ⟨_, _, rfl⟩
        have HC := Lib.hid hla
        clear hla
        go_wp2_with fail
        refine (lastA PV.out HC.out).mono ?_
        rintro e w3 ⟨rfl, hL, hK⟩
        have PA := Lib.hid hL
        have XV3 := Lib.hid (hK.blk XV.out NX.out)
        have xl3 := XV3.out.lt
        have e1 := XV3.out.cell 1
        simp at e1
        clear hL hK
        go_wp2_with fail
        refine (lastB PA.out HI.out HC.out).mono ?_
        rintro e w4 ⟨rfl, hL, -⟩
        have PB := Lib.hid hL
        clear hL
        have HI2 := Lib.hid HI.out
        go_wp2_with fail
        refine (lenA PB.out rfl).mono ?_
        rintro e w5 ⟨rfl, hL, -⟩
        have PC := Lib.hid hL
        clear hL
        go_wp2_with fail
        refine (lenB PC.out rfl).mono ?_
        rintro e w6 ⟨rfl, hL, -⟩
        have PE := Lib.hid hL
        clear hL
        go_wp2_with fail
        go_round
        case rel => exact ⟨k + 1, by omega, by go_num, _, _, _, PE.out, HI2.out⟩
        case measure => simp [intOf]; omega
    · obtain rfl : k = k0 := by omega
      clear hB
      go_wp2_with fail
      refine (AW.out _).mono ?_
      rintro e w3 ⟨rfl, hB3⟩
      go_wp2
      go_ret
      exact ⟨rfl, HB.out.trans (hB3.mono HB.out.size)⟩
end Go.Proofs.Ytkfiekpinojahab.velocityPlays
