/-
  PROVED: for every number of blocks and every list of steps, the law DiskPlays returns true: New and every call return what is specified. Conditions: none besides the form's own reach.
-/
import Derived.Test.YtkfiekpinojahaaDR9
import Derived.ChangeSlices
import Derived.Test.YtkfiekpinojahaaRows
import Derived.WalkKit
import Derived.ProofKit
import Derived.OpenShut
import Derived.ShutString
import Derived.ChangeOld
import Derived.Below
namespace Go.Proofs.Ytkfiekpinojahaa.diskPlays
open Go.ChangeShapes Go.WideShapes Go.ChangeAt Go.RowKit
open Go.ChangeMaps (open_string shut_string)
set_option linter.unusedVariables false
theorem i64_in {x : Int} (h : (Lit.int .i64 x).wf = true) : -9223372036854775808 ≤ x ∧ x ≤ 9223372036854775807 := by
  simp [Lit.wf, IntKind.min, IntKind.max, IntKind.signed, IntKind.bits] at h
  exact ⟨by omega, by omega⟩
set_option maxHeartbeats 3200000 in
set_option maxRecDepth 5000 in
theorem walk (nb : Int) (A0 : Option Addr) (k0 c0 : Nat) (L0 : List SR) (w : World) (wn : (Lit.int .i64 nb).wf = true) (lk0 : k0 ≤ maxLen) (lc0 : k0 ≤ c0) (lS0 : SRs w w.heap.size A0 k0 L0) (lL0 : ∀ r ∈ L0, okSR r) :
    Calls Try.prog 3 #[.int .i64 nb, .slice A0 k0 c0] w fun e w' => e = .returned (.bool true) ∧ Below w.heap.size w w' := by
  have AW := Lib.hid awake_any
  have S0 := Lib.hid (few_any A0 k0 c0 L0 w lS0 lk0)
  have HS0 := Lib.hid lS0
  have HL0 := Lib.hid lL0
  clear wn lk0 lc0 lS0 lL0
  go_enter Try.func3, Try.ntmps3
  go_wp2_with fail
  refine S0.out.mono ?_
  rintro e w1 ⟨b, rfl, hb0, rfl⟩
  cases b
  case false =>
    clear hb0
    go_wp2_with fail
    refine (AW.out _).mono ?_
    rintro e w3 ⟨rfl, hB3⟩
    go_wp2
    go_ret
    exact ⟨rfl, hB3⟩
  obtain ⟨h80, h200⟩ := hb0 rfl
  have P0 := Lib.hid h80
  have Q0 := Lib.hid h200
  clear hb0 h80 h200
  go_wp2_with fail
  by_cases hbad : nb < 1 ∨ 4096 < nb
  · refine (new_bad nb hbad w).mono ?_
    rintro e w1 ⟨rfl, rfl⟩
    go_wp2_with fail
    refine (R.new_bad nb hbad w).mono ?_
    rintro e w1 ⟨rfl, rfl⟩
    clear hbad
    go_wp2_with fail
    go_loopw [9] (fun i wr => ∃ k : Nat, k ≤ k0 ∧ i = .int .i64 (k : Int) ∧ Below w.heap.size w wr) (fun i _ => k0 - (intOf i).toNat)
    case atStart => exact ⟨0, by omega, rfl, Below.refl _ _⟩
    case round =>
      obtain ⟨k, hk, rfl, hB⟩ := hrel
      have HB := Lib.hid hB
      by_cases hlt : k < k0
      · obtain ⟨ad, x, p, rfl, hx, hp, hpb, q0, q1, q2, q3⟩ := SRs.at (HS0.out.below hB) hlt
        have hok := HL0.out x (List.mem_of_getElem? hx)
        obtain ⟨u1, u2⟩ := u8_in hok.1
        obtain ⟨u3, u4⟩ := u64_in hok.2.2.2
        obtain ⟨cN, hcN⟩ : ∃ c : Nat, x.c = (c : Int) := ⟨x.c.toNat, by omega⟩
        obtain ⟨mN, hmN⟩ : ∃ c : Nat, x.m = (c : Int) := ⟨x.m.toNat, by omega⟩
        rw [hcN] at q0
        rw [hmN] at q3
        have hc256 : cN < 256 := by omega
        have PN := Lib.hid (fun W => playn_all cN hc256 x.n x.t mN W)
        have hk80 : k < 80 := by have := P0.out; omega
        have hpl : p.block < wr.heap.size := by have := hB.size; omega
        clear hB hx hpb hok u1 u2 u3 u4 hcN hmN hc256
        go_wp2_with fail
        refine (PN.out _).mono ?_
        rintro e w2 ⟨rfl, hB2⟩
        have HB2 := Lib.hid (HB.out.trans (hB2.mono HB.out.size))
        clear hB2 q0 q1 q2 q3 hpl
        go_wp2_with (first | ((with_reducible refine (nil_blocks _).mono ?_); rintro e w3 ⟨rfl, rfl⟩) | ((with_reducible refine (rnil_blocks _).mono ?_); rintro e w3 ⟨rfl, rfl⟩) | ((with_reducible refine (nil_pending _).mono ?_); rintro e w3 ⟨rfl, rfl⟩) | ((with_reducible refine (rnil_pending _).mono ?_); rintro e w3 ⟨rfl, rfl⟩) | ((with_reducible refine (nil_down _).mono ?_); rintro e w3 ⟨rfl, rfl⟩) | ((with_reducible refine (rnil_down _).mono ?_); rintro e w3 ⟨rfl, rfl⟩))
        go_round
        case rel => exact ⟨k + 1, by omega, by go_num, HB2.out⟩
        case measure => simp [intOf]; omega
      · obtain rfl : k = k0 := by omega
        clear hB
        go_wp2_with fail
        refine (AW.out _).mono ?_
        rintro e w3 ⟨rfl, hB3⟩
        go_wp2
        go_ret
        exact ⟨rfl, HB.out.trans (hB3.mono HB.out.size)⟩
  obtain ⟨n, rfl⟩ : ∃ n : Nat, nb = (n : Int) := ⟨nb.toNat, by omega⟩
  have HN := Lib.hid (show 1 ≤ n ∧ n ≤ 4096 by omega)
  clear hbad
  refine (new_any n HN.out.1 HN.out.2 w).mono ?_
  rintro e w1 ⟨D, B, rfl, hr, hB⟩
  have HR := Lib.hid hr
  have HB := Lib.hid hB
  clear hr hB
  go_wp2_with fail
  refine (R.new_any n HN.out.1 HN.out.2 w1).mono ?_
  rintro e w2 ⟨E, F, rfl, hr, hB⟩
  have hpair : Pair w2 w2 w.heap.size D B E F (.slice none 0 0) (.slice none 0 0) (newS n) (newS n) := ⟨HR.out.kp (S := fun _ => False) (Kp.of (hB.mono (Nat.le_refl _))) (fun _ _ h => h), hr.mono HB.out.size, Kp.refl _ _, fun i hi ho => by
    have h1 := (HR.out.lt hi).2
    have h2 := (hr.lt ho).1
    omega⟩
  have HP0 := Lib.hid hpair
  have HB2 := Lib.hid (HB.out.trans (hB.mono HB.out.size))
  clear hr hB hpair
  go_wp2_with fail
  go_loopw [9] (fun i wr => ∃ k : Nat, k ≤ k0 ∧ i = .int .i64 (k : Int) ∧ PlayP w2 wr w.heap.size D B E F) (fun i _ => k0 - (intOf i).toNat)
  case atStart => exact ⟨0, by omega, rfl, _, _, _, _, HP0.out, Sim.refl _⟩
  case round =>
    obtain ⟨k, hk, rfl, v', u', s, r, hpr, hsim⟩ := hrel
    have hB : Below w.heap.size w wr := HB2.out.trans (hpr.kp.below (fun i hi => by omega) HB2.out.size)
    have HB := Lib.hid hB
    have HP := Lib.hid hpr
    have HSM := Lib.hid hsim
    clear hpr hsim
    by_cases hlt : k < k0
    · obtain ⟨ad, x, p, rfl, hx, hp, hpb, q0, q1, q2, q3⟩ := SRs.at (HS0.out.below hB) hlt
      have hok := HL0.out x (List.mem_of_getElem? hx)
      obtain ⟨u1, u2⟩ := u8_in hok.1
      obtain ⟨u3, u4⟩ := u64_in hok.2.2.2
      obtain ⟨cN, hcN⟩ : ∃ c : Nat, x.c = (c : Int) := ⟨x.c.toNat, by omega⟩
      obtain ⟨mN, hmN⟩ : ∃ c : Nat, x.m = (c : Int) := ⟨x.m.toNat, by omega⟩
      rw [hcN] at q0
      rw [hmN] at q3
      have HC := Lib.hid (show cN < 256 ∧ mN < 18446744073709551616 ∧ x.t.size ≤ 1000 by have := Q0.out x (List.mem_of_getElem? hx); omega)
      have hk80 : k < 80 := by have := P0.out; omega
      have hpl : p.block < wr.heap.size := by have := hB.size; omega
      clear hB hx hpb hok u1 u2 u3 u4 hcN hmN
      go_wp2_with fail
      refine (play_all HP.out HSM.out cN HC.out.1 x.n x.t HC.out.2.2 mN HC.out.2.1).mono ?_
      rintro e w3 ⟨rfl, v2, u2, s2, r2, hp3, hs3⟩
      have HP3 := Lib.hid hp3
      have HS3 := Lib.hid hs3
      have BA := Lib.hid (blocks_any _ _ _ _ _ _ hp3.ra)
      have BB := Lib.hid (R.blocks_any _ _ _ _ _ _ hp3.rb)
      have PA := Lib.hid (pending_any _ _ _ _ _ _ hp3.ra)
      have PB := Lib.hid (R.pending_any _ _ _ _ _ _ hp3.rb)
      have DA := Lib.hid (down_any _ _ _ _ _ _ hp3.ra)
      have DB := Lib.hid (R.down_any _ _ _ _ _ _ hp3.rb)
      rw [← hs3.bl] at BB
      rw [← hs3.pe] at PB
      rw [← hs3.down] at DB
      clear hp3 hs3 q0 q1 q2 q3 hpl
      go_wp2_with fail
      refine BA.out.mono ?_
      rintro e w4 ⟨rfl, rfl⟩
      go_wp2_with fail
      refine BB.out.mono ?_
      rintro e w4 ⟨rfl, rfl⟩
      go_wp2_with fail
      refine PA.out.mono ?_
      rintro e w4 ⟨rfl, rfl⟩
      go_wp2_with fail
      refine PB.out.mono ?_
      rintro e w4 ⟨rfl, rfl⟩
      go_wp2_with fail
      refine DA.out.mono ?_
      rintro e w4 ⟨rfl, rfl⟩
      go_wp2_with fail
      refine DB.out.mono ?_
      rintro e w4 ⟨rfl, rfl⟩
      go_wp2_with fail
      go_round
      case rel => exact ⟨k + 1, by omega, by go_num, _, _, _, _, HP3.out, HS3.out⟩
      case measure => simp [intOf]; omega
    · obtain rfl : k = k0 := by omega
      clear hB
      go_wp2_with fail
      refine (AW.out _).mono ?_
      rintro e w3 ⟨rfl, hB3⟩
      go_wp2
      go_ret
      exact ⟨rfl, HB.out.trans (hB3.mono HB.out.size)⟩

theorem own : ownKnob Try.prog.godebug = none := by kernel_rfl
theorem laidOut : laidOutB Try.prog = true := by kernel_rfl
set_option maxRecDepth 100000 in
theorem lifted (os : Os) (started : os.Started) (H : Type) (enc : TypeId × Value → H) :
    ReturnsInHanded {} Try.checked os 3 .any (Rows.diskPlaysSpec.pre6 enc Try.prog Try.f3 Rows.diskPlaysRow.domain false) (Rows.diskPlaysSpec.post enc Try.prog Try.f3 false true false false) := by
  refine returnsInHanded_of_change (C := Try.checked) own started (by kernel_rfl) Try.func3
    (ChangeSpec.witness6 (enc := enc) (C := Try.checked) false ⟨#[], #[.int .i64 0, .slice none 0 0], []⟩ 8 (by kernel_rfl) (by kernel_rfl) (by kernel_rfl) (by kernel_rfl)) ?_
  intro W base args ds gs before hval0 hW hcnd _
  have hval : ∀ (j : Nat) t v, Try.f3.params[j]? = some t → args[j]? = some v → Value.okWide Try.prog W .any base t v := hval0
  have hW' := hW
  obtain ⟨p, q, hA0, hV, rfl, hfz, hnd⟩ := hW
  have hA : DataW.TrodAll enc Try.prog W 0 (fun _ => true) true Try.f3.params.toList args.toList ds p := hA0
  rw [Try.params3] at hA hval
  obtain ⟨v0, vs0, d0, ds0, p0, q0, hargs, rfl, rfl, h0, r0⟩ := trodAll_cons hA
  obtain ⟨v1, vs1, d1, ds1, p1, q1, rfl, rfl, rfl, h1, r1⟩ := trodAll_cons r0
  obtain ⟨rfl, rfl, rfl⟩ := trodAll_nil r1
  obtain rfl : args = #[v0, v1] := by cases args; simp_all
  obtain ⟨rfl, rfl⟩ := trodVars_none hV
  have k0 := h0
  have lt0 : ∀ x ∈ p0, x.block < W.heap.size := by obtain ⟨m, hm⟩ := k0; exact DataW.trod_lt m _ _ _ hm
  obtain ⟨a0, rfl, -, -, w0⟩ := open_int Try.underlying3 (hval 0 3 v0 rfl rfl) h0
  have k1 := h1
  have lt1 : ∀ x ∈ p1, x.block < W.heap.size := by obtain ⟨m, hm⟩ := k1; exact DataW.trod_lt m _ _ _ hm
  obtain ⟨zA1, zk1, zc1, zL1, rfl, lk1, lc1, lS1, lL1⟩ := open_SRT (hval 1 22 v1 rfl rfl) h1
  clear hA0 hval0
  refine (walk a0 zA1 zk1 zc1 zL1 W w0 lk1 lc1 lS1 lL1).mono fun e W' ⟨he, bel⟩ => ?_
  subst he
  exact ⟨_, rfl, _, _, _, [], _, [], hW', trodAll_mk1 (shut_bool Try.underlying4 _), (trodAll_cons_mk (Below.trod laidOut (by kernel_rfl) (of_decide_eq_true (by kernel_rfl)) k0 bel lt0) (trodAll_cons_mk (Below.trod laidOut (by kernel_rfl) (of_decide_eq_true (by kernel_rfl)) k1 bel lt1) trodAll_mk0)), rfl, bel.frame _, fun h => by cases h⟩

theorem over : Rows.diskPlaysRow.holds Try.pinned (OpenSpec.ofChange Rows.diskPlaysSpec) :=
  OpenClaim.holds_of_wide 3 Try.f3 rfl rfl rfl rfl rfl rfl rfl ⟨rfl, rfl, rfl, rfl, rfl⟩ rfl rfl rfl rfl rfl (by kernel_rfl) Try.func3 (by kernel_rfl)
    (of_decide_eq_true (by kernel_rfl)) (by unfold Func.isWrapper; first | (rw [if_pos (by decide +kernel)]; kernel_rfl) | (rw [if_neg (by decide +kernel)]; exact ⟨rfl, rfl⟩))
    (fun os started H enc _ => lifted os started H enc)
/-- THE STATEMENT. -/
theorem proved : Rows.DiskPlaysSaid := over
#print axioms proved
end Go.Proofs.Ytkfiekpinojahaa.diskPlays
