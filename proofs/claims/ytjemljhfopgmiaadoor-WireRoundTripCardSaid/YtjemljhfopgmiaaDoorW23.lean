/-
  CONTRACTS of wire: the specification's Unhex.
-/
import Derived.Test.YtjemljhfopgmiaaDoorW22
namespace Go.Proofs.YtjemljhfopgmiaaDoor
open Go.RowKit
set_option linter.unusedVariables false
set_option linter.unusedSimpArgs false
theorem hw_low {c : Int} (h : lowB c) : hw c = hv c := by unfold hw; rw [if_pos h]
theorem hw_no {c : Int} (h : ¬ lowB c) : hw c = -1 := by unfold hw; rw [if_neg h]
theorem snoc_low2 {s : ByteArray} {k : Nat} (h : ∀ j, j < 2 * k → lowB (byt s j)) (hx : lowB (byt s (2 * k))) (hy : lowB (byt s (2 * k + 1))) : ∀ j, j < 2 * (k + 1) → lowB (byt s j) :=
  snoc_low (snoc_low h hx) hy
theorem half_same (c : Int) (h0 : 0 ≤ c) (h1 : c ≤ 255) (w : World) : Calls Tryd.prog 34 #[.int .u8 c] w fun e w' => e = .returned (.int .i64 (hw c)) ∧ w' = w := (half_any c h0 h1 w).mono fun _ _ h => ⟨h.1, h.2.symm⟩
set_option maxHeartbeats 3200000 in
set_option maxRecDepth 5000 in
theorem runhex_any (s : ByteArray) (hs : s.size ≤ 1000) (w : World) :
    Calls Tryd.prog 14 #[.string s] w fun e w' => (∃ t c, UnhP s t c ∧ e = .returned (.tuple #[.string t, .int .i64 c])) ∧ Below w.heap.size w w' := by
  by_cases hm : s.size % 2 = 1
  · have hm1 : ((s.size : Int).tmod 2) = 1 := by rw [Int.tmod_eq_emod_of_nonneg (by omega)]; omega
    have hm2 : (s.size : Int) % 2 = 1 := by omega
    have HM := Lib.hid hm
    clear hm
    go_enter Tryd.func14, Tryd.ntmps14
    go_wp2_with fail
    go_ret2
    exact ⟨⟨_, _, .inl ⟨.inl HM.out, rfl, rfl⟩, rfl⟩, Below.refl _ _⟩
  have hm1 : ((s.size : Int).tmod 2) = 0 := by rw [Int.tmod_eq_emod_of_nonneg (by omega)]; omega
  have hm2 : (s.size : Int) % 2 = 0 := by omega
  have HM : Hid (s.size % 2 = 0) := Lib.hid (by omega)
  clear hm
  go_enter Tryd.func14, Tryd.ntmps14
  go_wp2_with fail
  go_loopw [4, 5] (fun o i wr => ∃ (k : Nat) (r : ByteArray), 2 * k ≤ s.size ∧ i = .int .i64 (2 * (k : Int)) ∧ o = .string r ∧ Below w.heap.size w wr ∧ r.size ≤ k ∧ Hid (r = unhS s k) ∧ Hid (∀ j, j < 2 * k → lowB (byt s j))) (fun _ i _ => s.size - (intOf i).toNat)
  case atStart => exact ⟨0, _, Nat.zero_le _, rfl, rfl, Below.refl _ _, Nat.zero_le _, Lib.hid rfl, Lib.hid fun j h => absurd h (by omega)⟩
  case round =>
    obtain ⟨k, r, hk, rfl, rfl, hb, hz, HR, HALL⟩ := hrel
    by_cases hlt : 2 * k < s.size
    · have hlt2 : 2 * k + 1 < s.size := by have := HM.out; omega
      have hx0 := fun w => ix_at s (2 * k) hlt (i := 2 * (k : Int)) (by omega) w
      have hx1 := fun w => ix_at s (2 * k + 1) hlt2 (i := 2 * (k : Int) + 1) (by omega) w
      have hwx : IntKind.i64.wrap (2 * (k : Int) + 1) = 2 * (k : Int) + 1 := IntWalk.i64_in _ (by omega)
      have hy0 := byt_bd s (2 * k)
      have hy1 := byt_bd s (2 * k + 1)
      have H0 := Lib.hid (fun w => half_same (byt s (2 * k)) hy0.1 hy0.2 w)
      have H1 := Lib.hid (fun w => half_same (byt s (2 * k + 1)) hy1.1 hy1.2 w)
      have HS : Hid (unhS s (k + 1) = r ++ one (16 * hv (byt s (2 * k)) + hv (byt s (2 * k + 1)))) := Lib.hid (by rw [unhS, HR.out])
      have HNO : Hid (¬ lowB (byt s (2 * k)) ∨ ¬ lowB (byt s (2 * k + 1)) → ¬ LowP s) := Lib.hid fun h hL => by
        rcases h with h | h
        · exact h (hL _ hlt)
        · exact h (hL _ hlt2)
      have HYES := Lib.hid (snoc_low2 HALL.out)
      clear hlt2
      generalize byt s (2 * k) = x at *
      generalize byt s (2 * k + 1) = y at *
      by_cases hL0 : lowB x
      · obtain ⟨a0, a1⟩ := hv_bd hL0
        rw [hw_low hL0] at H0
        by_cases hL1 : lowB y
        · obtain ⟨b0, b1⟩ := hv_bd hL1
          rw [hw_low hL1] at H1
          have HLL := Lib.hid (HYES.out hL0 hL1)
          clear hL0 hL1
          generalize hv x = p at *
          generalize hv y = q at *
          go_wp2
          go_quiet ((first | (go_at_call 34; first | with_reducible exact Calls.quiet_of_same (H0.out _) | with_reducible exact Calls.quiet_of_same (H1.out _))))
          have hzo := one_size (16 * p + q)
          have hwc : IntKind.u8.wrap (p * 16 + q) = 16 * p + q := by rw [IntKind.wrap_u8]; omega
          have hb2 : Below w.heap.size w (wr.drewN nq) := hb.trans ⟨rfl, rfl, rfl, Nat.le_refl _, fun _ _ => rfl⟩
          clear hb
          generalize wr.drewN nq = w2 at *
          go_wp2_with fail
          rw [one_new]
          simp only [Result.andThen]
          rw [Oper.upon_value]
          generalize one (16 * p + q) = o at *
          go_wp2
          go_roundw
          case rel => exact ⟨k + 1, _, by omega, by go_num, rfl, hb2.alloc hb2.size _, by rw [ByteArray.size_append, hzo]; omega, Lib.hid HS.out.symm, HLL⟩
          case measure => simp [intOf]; omega
        · rw [hw_no hL1] at H1
          have HN := Lib.hid (HNO.out (.inr hL1))
          clear hL0 hL1
          generalize hv x = p at *
          go_wp2
          go_quiet ((first | (go_at_call 34; first | with_reducible exact Calls.quiet_of_same (H0.out _) | with_reducible exact Calls.quiet_of_same (H1.out _))))
          go_wp2_with fail
          go_ret2
          exact ⟨⟨_, _, .inl ⟨.inr HN.out, rfl, rfl⟩, rfl⟩, hb.trans ⟨rfl, rfl, rfl, Nat.le_refl _, fun _ _ => rfl⟩⟩
      · rw [hw_no hL0] at H0
        have HN := Lib.hid (HNO.out (.inl hL0))
        clear hL0
        generalize hw y = q at *
        go_wp2
        go_quiet ((first | (go_at_call 34; first | with_reducible exact Calls.quiet_of_same (H0.out _) | with_reducible exact Calls.quiet_of_same (H1.out _))))
        go_wp2_with fail
        go_ret2
        exact ⟨⟨_, _, .inl ⟨.inr HN.out, rfl, rfl⟩, rfl⟩, hb.trans ⟨rfl, rfl, rfl, Nat.le_refl _, fun _ _ => rfl⟩⟩
    · have hke : Hid (k = s.size / 2) := Lib.hid (by omega)
      have HA : Hid (UnhP s r 0) := Lib.hid (.inr ⟨HM.out, fun j hj => HALL.out j (by omega), by rw [HR.out, hke.out], rfl⟩)
      go_wp2
      go_ret2
      exact ⟨⟨_, _, HA.out, rfl⟩, hb⟩
end Go.Proofs.YtjemljhfopgmiaaDoor
