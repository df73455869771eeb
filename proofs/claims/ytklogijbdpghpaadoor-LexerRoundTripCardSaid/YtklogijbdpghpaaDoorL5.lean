/-
  CONTRACTS of the lexer: the specification's numbers, texts of both, marks.
-/
import Derived.Test.YtklogijbdpghpaaDoorL4
namespace Go.Proofs.YtklogijbdpghpaaDoor
open Go.RowKit
set_option linter.unusedVariables false
set_option linter.unusedSimpArgs false
theorem digit_bd {s : ByteArray} {k : Nat} (h : digitB (byt s k) = true) : 48 ≤ byt s k ∧ byt s k ≤ 57 := by unfold digitB at h; exact of_decide_eq_true h
set_option maxHeartbeats 3200000 in
theorem rnumber_any (s : ByteArray) (hs : s.size ≤ 10000) (h0 : 0 < s.size) (w : World) {n c : Int} (hn : numN s = n) (hc : numE s = c) :
    Calls Tryd.prog 52 #[.string s] w fun e w' => e = .returned (.tuple #[.int .i64 n, .int .i64 c]) ∧ w = w' := by
  have HN := Lib.hid hn
  have HC := Lib.hid hc
  clear hn hc
  go_enter Tryd.func52, Tryd.ntmps52
  go_wp2_with fail
  obtain ⟨C53, hC53⟩ : ∃ C : Nat, C = 9007199254740992 := ⟨_, rfl⟩
  have HCC := Lib.hid hC53
  clear hC53
  go_loop [4, 5, 6] (fun m l i => ∃ (k : Nat) (b : Bool) (V : Nat), k ≤ s.size ∧ i = .int .i64 (k : Int) ∧ l = .bool b ∧ m = .int .i64 (V : Int) ∧ Hid (b = decide (C53 < valF s k)) ∧ Hid (b = false → V = valF s k) ∧ Hid (V ≤ 10 * C53 + 9) ∧ Hid (∀ j, j < k → digitB (byt s j) = true) ∧ Hid (0 < k → ¬ (1 < s.size ∧ byt s 0 = 48))) (fun _ _ i => s.size - (intOf i).toNat)
  case atStart => exact ⟨0, false, 0, Nat.zero_le _, rfl, rfl, rfl, Lib.hid (by rw [valF]; simp), Lib.hid fun _ => rfl, Lib.hid (by omega), Lib.hid fun j h => absurd h (by omega), Lib.hid fun h => absurd h (by omega)⟩
  case round =>
    obtain ⟨k, b, V, hk, rfl, rfl, rfl, HL, HV, HM, HA, HZ⟩ := hrel
    by_cases hlt : k < s.size
    · have hx := fun w => ix_at s k hlt (i := (k : Int)) rfl w
      have hx0 := fun w => ix_at s 0 h0 (i := 0) rfl w
      have HB := byt_bd s k
      cases hd : digitB (byt s k) with
      | false =>
        have h2 : numE s = 2 := numE_digit hlt hd
        obtain rfl : c = 2 := HC.out.symm.trans h2
        obtain rfl : n = 0 := HN.out.symm.trans (numN_bad (by omega))
        clear h2
        go_wp2_with (go_at_call 51; refine (rdigit_any _ (by omega) (by omega) _).mono ?_; rintro e w' ⟨rfl, rfl⟩)
        go_ret2
        exact ⟨rfl, rfl⟩
      | true =>
        by_cases hz : 1 < s.size ∧ byt s 0 = 48
        · have h2 : numE s = 2 := numE_zero hz.1 hz.2
          obtain rfl : c = 2 := HC.out.symm.trans h2
          obtain rfl : n = 0 := HN.out.symm.trans (numN_bad (by omega))
          have d1 : decide ((1 : Int) < (s.size : Int)) = true := decide_eq_true (by omega)
          have e1 : (byt s 0 == 48) = true := by rw [hz.2]; rfl
          clear h2 hz
          go_wp2_with (go_at_call 51; refine (rdigit_any _ (by omega) (by omega) _).mono ?_; rintro e w' ⟨rfl, rfl⟩)
          go_ret2
          exact ⟨rfl, rfl⟩
        · have HZ2 : Hid (0 < k + 1 → ¬ (1 < s.size ∧ byt s 0 = 48)) := Lib.hid fun _ => hz
          have HA2 : Hid (∀ j, j < k + 1 → digitB (byt s j) = true) := Lib.hid fun j h => by
            rcases Nat.lt_or_ge j k with h1 | h1
            · exact HA.out j h1
            · obtain rfl : j = k := by omega
              exact hd
          have hdb := digit_bd hd
          obtain ⟨d, hdd⟩ : ∃ d : Nat, byt s k = 48 + (d : Int) := ⟨(byt s k - 48).toNat, by omega⟩
          have hd9 : d ≤ 9 := by omega
          have hvs : valF s (k + 1) = 10 * valF s k + d := by rw [valF, hdd]; omega
          have hmono := valF_mono s k
          have hC := HCC.out
          have hM := HM.out
          have hw1 : IntKind.u8.wrap (byt s k - 48) = (d : Int) := by rw [hdd]; simp [IntKind.wrap, IntKind.bits, IntKind.signed]; omega
          have hw2 : IntKind.i64.wrap (d : Int) = (d : Int) := by simp [IntKind.wrap, IntKind.bits, IntKind.signed]; omega
          have hzz : (decide ((1 : Int) < (s.size : Int)) = true ∧ (byt s 0 == 48) = false) ∨ decide ((1 : Int) < (s.size : Int)) = false := by
            by_cases h1 : 1 < s.size
            · exact .inl ⟨decide_eq_true (by omega), beq_false_of_ne fun h => hz ⟨h1, h⟩⟩
            · exact .inr (decide_eq_false (by omega))
          clear hz
          rcases hzz with ⟨d1, e1⟩ | d1
          all_goals
            have HC1 := Lib.hid hC
            have HM1 := Lib.hid hM
            have HVS := Lib.hid hvs
            have HMO := Lib.hid hmono
            cases b with
            | true =>
              have HL2 : Hid (true = decide (C53 < valF s (k + 1))) := Lib.hid (by
                have h1 : C53 < valF s k := of_decide_eq_true HL.out.symm
                exact (decide_eq_true (by omega)).symm)
              clear hdd hd9 hvs hmono hC hM hdb
              go_wp2_with (go_at_call 51; refine (rdigit_any _ (by omega) (by omega) _).mono ?_; rintro e w' ⟨rfl, rfl⟩)
              go_round
              case rel => exact ⟨k + 1, true, V, by omega, by go_num, rfl, rfl, HL2, Lib.hid fun h => absurd h (by simp), HM, HA2, HZ2⟩
              case measure => simp [intOf]; omega
            | false =>
              have hV := HV.out rfl
              have hnl : ¬ C53 < valF s k := of_decide_eq_false HL.out.symm
              obtain ⟨V2, hV2⟩ : ∃ V2 : Nat, V2 = 10 * V + d := ⟨_, rfl⟩
              have hVV : V2 = valF s (k + 1) := by omega
              have HL2 : Hid (decide (C53 < V2) = decide (C53 < valF s (k + 1))) := Lib.hid (by rw [hVV])
              have HM2 : Hid (V2 ≤ 10 * C53 + 9) := Lib.hid (by omega)
              have HV2 : Hid (V2 = valF s (k + 1)) := Lib.hid hVV
              have hw3 : IntKind.i64.wrap (10 * (V : Int)) = 10 * (V : Int) := by simp [IntKind.wrap, IntKind.bits, IntKind.signed]; omega
              have hw4 : IntKind.i64.wrap (10 * (V : Int) + (d : Int)) = (V2 : Int) := by simp [IntKind.wrap, IntKind.bits, IntKind.signed]; omega
              by_cases hb2 : C53 < V2
              · have d2 : decide ((9007199254740992 : Int) < (V2 : Int)) = true := decide_eq_true (by omega)
                have HL3 : Hid (true = decide (C53 < valF s (k + 1))) := Lib.hid (by rw [← HL2.out]; exact (decide_eq_true hb2).symm)
                clear hdd hd9 hvs hmono hC hM hdb hV hnl hV2 hVV hb2
                go_wp2_with (go_at_call 51; refine (rdigit_any _ (by omega) (by omega) _).mono ?_; rintro e w' ⟨rfl, rfl⟩)
                go_round
                case rel => exact ⟨k + 1, true, V2, by omega, by go_num, rfl, rfl, HL3, Lib.hid fun h => absurd h (by simp), HM2, HA2, HZ2⟩
                case measure => simp [intOf]; omega
              · have d2 : decide ((9007199254740992 : Int) < (V2 : Int)) = false := decide_eq_false (by omega)
                have HL3 : Hid (false = decide (C53 < valF s (k + 1))) := Lib.hid (by rw [← HL2.out]; exact (decide_eq_false hb2).symm)
                clear hdd hd9 hvs hmono hC hM hdb hV hnl hV2 hVV hb2
                go_wp2_with (go_at_call 51; refine (rdigit_any _ (by omega) (by omega) _).mono ?_; rintro e w' ⟨rfl, rfl⟩)
                go_round
                case rel => exact ⟨k + 1, false, V2, by omega, by go_num, rfl, rfl, HL3, Lib.hid fun _ => HV2.out, HM2, HA2, HZ2⟩
                case measure => simp [intOf]; omega
    · obtain rfl : k = s.size := by omega
      have hdg : dgsB s = true := (dgsB_iff s).2 HA.out
      have h2 := numE_ok hdg (HZ.out h0)
      cases b with
      | true =>
        have hlt : C53 < valF s s.size := of_decide_eq_true HL.out.symm
        rw [if_pos (by rw [← HCC.out]; exact hlt)] at h2
        obtain rfl : c = 4 := HC.out.symm.trans h2
        obtain rfl : n = 0 := HN.out.symm.trans (numN_bad (by omega))
        clear h2 hlt hdg
        go_wp2_with fail
        go_ret2
        exact ⟨rfl, rfl⟩
      | false =>
        have hlt : ¬ C53 < valF s s.size := of_decide_eq_false HL.out.symm
        rw [if_neg (by rw [← HCC.out]; exact hlt)] at h2
        obtain rfl : c = 0 := HC.out.symm.trans h2
        have hV := HV.out rfl
        obtain rfl : n = (V : Int) := HN.out.symm.trans ((numN_ok h2).trans (by rw [hV]))
        clear h2 hlt hdg hV
        go_wp2_with fail
        go_ret2
        exact ⟨rfl, rfl⟩
end Go.Proofs.YtklogijbdpghpaaDoor
