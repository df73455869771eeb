/-
  CONTRACTS of the lexer: the program's skipping, words of both, names.
-/
import Derived.Test.YtklogijbdpghpaaDoorL1
namespace Go.Proofs.YtklogijbdpghpaaDoor
open Go.RowKit
set_option linter.unusedVariables false
set_option linter.unusedSimpArgs false
theorem dec_nat (c : Int) (h0 : 0 ≤ c) (h1 : c ≤ 255) : IntKind.i32.wrap c = c := by
  simp [IntKind.wrap, IntKind.bits, IntKind.signed]; omega
theorem skP_hash (s : ByteArray) (k : Nat) (h : k < s.size) (hx : byt s k = 35) : skP s false k = skP s true k := by
  rw [skP_go s false k h (by unfold go1; rw [hx]; rfl), skP_go s true k h (by unfold go1; rfl)]
  unfold go2; rw [hx]; rfl
theorem skP_line (s : ByteArray) (k : Nat) (hx : k < s.size → byt s k = 10) (hk : k ≤ s.size) : skP s true k = skP s false k := by
  by_cases h : k < s.size
  · rw [skP_go s false k h (by unfold go1; rw [hx h]; rfl), skP_go s true k h (by unfold go1; rfl)]
    unfold go2; rw [hx h]; rfl
  · rw [skP_end _ _ _ (by omega), skP_end _ _ _ (by omega)]
set_option maxHeartbeats 3200000 in
theorem skip_any (s : ByteArray) (hs : s.size ≤ 10000) (i : Nat) (hi : i ≤ s.size) {q : Nat} (hq : skP s false i = q) (w : World) :
    Calls Tryd.prog 29 #[.string s, .int .i64 (i : Int)] w fun e w' => e = .returned (.int .i64 (q : Int)) ∧ w = w' := by
  have HQ := Lib.hid hq
  clear hq
  go_enter Tryd.func29, Tryd.ntmps29
  go_wp2_with fail
  go_loop [1] (fun i => ∃ (k : Nat), k ≤ s.size ∧ i = .int .i64 (k : Int) ∧ Hid (skP s false k = q)) (fun i => s.size - (intOf i).toNat)
  case atStart => exact ⟨i, hi, rfl, HQ⟩
  case round =>
    obtain ⟨k, hk, rfl, HK⟩ := hrel
    by_cases hlt : k < s.size
    · have hx := fun w => ix_at s k hlt (i := (k : Int)) rfl w
      have HB := byt_bd s k
      have hwr := dec_nat (byt s k) HB.1 HB.2
      by_cases hsp : isSp (byt s k) = true
      · have HGo : Hid (skP s false k = skP s false (k + 1)) := Lib.hid (by
          rw [skP_go s false k hlt (by unfold go1; rw [hsp]; rfl)]
          congr 1
          unfold go2
          have : byt s k ≠ 35 := fun h => by rw [h] at hsp; cases hsp
          simp [this])
        have k1 : (kindS (byt s k) == 1) = true := kind_sp.trans hsp
        go_wp2_with fail
        refine (kind_any _ (by omega) (by omega) _).mono ?_
        rintro e w' ⟨rfl, rfl⟩
        generalize kindS (byt s k) = kd at *
        go_wp2_with fail
        go_round
        case rel => exact ⟨k + 1, by omega, by go_num, Lib.hid (HGo.out.symm.trans HK.out)⟩
        case measure => simp [intOf]; omega
      · have k1 : (kindS (byt s k) == 1) = false := kind_sp.trans (by simpa using hsp)
        by_cases h35 : byt s k = 35
        · have k2 : (kindS (byt s k) == 2) = true := kind_hash.trans (by rw [h35]; rfl)
          have HT : Hid (skP s true k = q) := Lib.hid ((skP_hash s k hlt h35).symm.trans HK.out)
          have HNT : Hid (byt s k ≠ 10) := Lib.hid (by omega)
          go_wp2_with fail
          refine (kind_any _ (by omega) (by omega) _).mono ?_
          rintro e w' ⟨rfl, rfl⟩
          generalize kindS (byt s k) = kd at *
          clear hx h35 hwr HB hsp
          go_wp2_with fail
          clear k1 k2
          go_loop [1] (fun i => ∃ (j : Nat), k ≤ j ∧ j ≤ s.size ∧ i = .int .i64 (j : Int) ∧ Hid (skP s true j = q) ∧ Hid (j = k → byt s k ≠ 10)) (fun i => s.size - (intOf i).toNat)
          case atStart => exact ⟨k, Nat.le_refl _, hk, rfl, HT, Lib.hid fun _ => HNT.out⟩
          case round =>
            obtain ⟨j, hkj, hj, rfl, HJ, HN⟩ := hrel
            by_cases hl2 : j < s.size
            · have hx := fun w => ix_at s j hl2 (i := (j : Int)) rfl w
              by_cases h10 : byt s j = 10
              · have e1 : (byt s j == 10) = true := by rw [h10]; rfl
                have e2 : (byt s j != 10) = false := by rw [h10]; rfl
                have HL : Hid (skP s false j = q) := Lib.hid ((skP_line s j (fun _ => h10) hj).symm.trans HJ.out)
                have hne : k < j := by
                  rcases Nat.lt_or_ge k j with h | h
                  · exact h
                  · obtain rfl : j = k := by omega
                    exact absurd h10 (HN.out rfl)
                clear h10
                go_wp2_with fail
                go_round
                case rel => exact ⟨j, by omega, rfl, HL⟩
                case measure => simp [intOf]; omega
              · have e1 : (byt s j == 10) = false := beq_false_of_ne h10
                have e2 : (byt s j != 10) = true := by simp [h10]
                have HL : Hid (skP s true (j + 1) = q) := Lib.hid (by
                  rw [← HJ.out, skP_go s true j hl2 rfl]
                  unfold go2
                  rw [e2]
                  rfl)
                clear h10
                go_wp2_with fail
                go_round
                case rel => exact ⟨j + 1, by omega, by omega, by go_num, HL, Lib.hid fun h => by omega⟩
                case measure => simp [intOf]; omega
            · obtain rfl : j = s.size := by omega
              have HL : Hid (skP s false s.size = q) := Lib.hid ((skP_line s s.size (fun h => by omega) (Nat.le_refl _)).symm.trans HJ.out)
              go_wp2_with fail
              go_round
              case rel => exact ⟨s.size, by omega, rfl, HL⟩
              case measure => simp [intOf]; omega
        · have k2 : (kindS (byt s k) == 2) = false := kind_hash.trans (beq_false_of_ne h35)
          have HE : Hid (k = q) := Lib.hid ((skP_stop s false k (by unfold go1; rw [beq_false_of_ne h35]; simpa using hsp)).symm.trans HK.out)
          go_wp2_with fail
          refine (kind_any _ (by omega) (by omega) _).mono ?_
          rintro e w' ⟨rfl, rfl⟩
          generalize kindS (byt s k) = kd at *
          clear hsp h35
          go_wp2_with fail
          go_ret
          exact ⟨ret_int (by rw [HE.out]), rfl⟩
    · obtain rfl : k = s.size := by omega
      have HE : Hid (s.size = q) := Lib.hid ((skP_end s false s.size (Nat.le_refl _)).symm.trans HK.out)
      go_wp2_with fail
      go_ret
      exact ⟨ret_int (by rw [HE.out]), rfl⟩
end Go.Proofs.YtklogijbdpghpaaDoor
