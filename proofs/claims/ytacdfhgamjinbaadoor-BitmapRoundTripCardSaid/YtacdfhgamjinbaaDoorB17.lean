/-
  CONTRACTS of bitmaps: the specification's read.
-/
import Derived.Test.YtacdfhgamjinbaaDoorB16
namespace Go.Proofs.YtacdfhgamjinbaaDoor
open Go.RowKit
set_option linter.unusedVariables false
def dKi (c k : Nat) : Int := if lowN c ∧ dV c < k then (dV c : Int) else -1
theorem dKi_low {c : Nat} (h : lowN c) : dKi c 16 = (dV c : Int) := by rw [dKi, if_pos ⟨h, dV_lt c⟩]
theorem dKi_bad {c : Nat} (h : ¬ lowN c) (k : Nat) : dKi c k = -1 := by rw [dKi, if_neg (fun h2 => h h2.1)]
theorem dKi_yes {c k : Nat} (hk : k < 16) (h : hdI k = (c : Int)) : dKi c (k + 1) = k := by
  obtain ⟨h1, h2⟩ := (hd_iff hk).1 h
  rw [dKi, if_pos ⟨h1, by omega⟩, h2]
theorem dKi_no {c k : Nat} (hk : k < 16) (h : ¬ hdI k = (c : Int)) : dKi c (k + 1) = dKi c k := by
  have h1 : ¬ (lowN c ∧ dV c = k) := fun h2 => h ((hd_iff hk).2 h2)
  unfold dKi
  by_cases hl : lowN c
  · have : dV c ≠ k := fun e => h1 ⟨hl, e⟩
    by_cases h3 : dV c < k
    · rw [if_pos ⟨hl, by omega⟩, if_pos ⟨hl, h3⟩]
    · rw [if_neg (by omega), if_neg (by omega)]
  · rw [if_neg (fun h => hl h.1), if_neg (fun h => hl h.1)]
set_option maxHeartbeats 2000000 in
theorem read_ok (t : ByteArray) (hz : t.size = 16) (hl : ∀ (k : Nat) (h : k < t.size), lowN t[k].toNat) (w : World) :
    Calls Tryd.prog 37 #[.string t] w fun e w' => e = .returned (.tuple #[.int .u64 (numN t : Int), .bool true]) ∧ Below w.heap.size w w' := by
  have HL := Lib.hid hl
  have HZ := Lib.hid hz
  clear hl
  go_enter Tryd.func37, Tryd.ntmps37
  go_wp2_with fail
  go_loopw [4, 5] (fun n i wr => ∃ k : Nat, k ≤ 16 ∧ i = .int .i64 k ∧ n = .int .u64 (numAt t k : Int) ∧ Below w.heap.size w wr) (fun _ i _ => 16 - (intOf i).toNat)
  case atStart => exact ⟨0, Nat.zero_le _, rfl, rfl, Below.refl _ _⟩
  case round =>
    obtain ⟨k, hk, rfl, rfl, hb⟩ := hrel


    by_cases h2 : k < 16
    · have h1 : k < t.size := by omega
      have hb256 : t[k].toNat < 256 := t[k].toNat_lt
      have HS := Lib.hid (numAt_succ t k h1)
      have hna := numAt_bd t k h2
      generalize numAt t k = a at *
      go_wp2_with fail
      go_loopw [6, 7] (fun d j wr => ∃ q : Nat, q ≤ 16 ∧ j = .int .i64 q ∧ d = .int .i64 (dKi t[k].toNat q) ∧ Below w.heap.size w wr) (fun _ j _ => 16 - (intOf j).toNat)
      case atStart => exact ⟨0, Nat.zero_le _, rfl, by simp [dKi], hb⟩
      case round =>
        obtain ⟨q, hq, rfl, rfl, hb2⟩ := hrel
        by_cases hqt : q < 16
        · have hG := hex16_get q hqt (show q < 16 from hqt)
          by_cases hT : hdI q = (t[k].toNat : Int)
          · have HY := Lib.hid (dKi_yes hqt hT)
            have hT2 : ((t[k].toNat : Int) == hdI q) = true := by rw [beq_iff_eq]; exact hT.symm
            clear hT
            go_wp2_with fail
            go_quiet (fail)
            go_wp2
            exact ⟨⟨q + 1, by omega, y5 q, val_eq (by rw [HY.out]), hb2.trans ⟨rfl, rfl, rfl, Nat.le_refl _, fun _ _ => rfl⟩⟩, by simp [intOf]; omega⟩
          · have HY := Lib.hid (dKi_no hqt hT)
            have hT2 : ((t[k].toNat : Int) == hdI q) = false := by rw [beq_eq_false_iff_ne]; exact fun h => hT h.symm
            clear hT
            go_wp2_with fail
            go_quiet (fail)
            go_wp2
            exact ⟨⟨q + 1, by omega, y5 q, val_eq (by rw [HY.out]), hb2.trans ⟨rfl, rfl, rfl, Nat.le_refl _, fun _ _ => rfl⟩⟩, by simp [intOf]; omega⟩
        · obtain rfl : q = 16 := by omega
          have HLo := Lib.hid (HL.out k h1)
          have hki := dKi_low HLo.out
          rw [hki]
          have hdv := dV_lt t[k].toNat
          generalize dV t[k].toNat = d at *
          have hw2 : IntKind.u64.wrap ((a : Int) * 16 + (d : Int)) = (a : Int) * 16 + (d : Int) := by rw [IntKind.wrap_u64]; omega
          have hw1 : IntKind.u64.wrap ((a : Int) * 16) = (a : Int) * 16 := by rw [IntKind.wrap_u64]; omega
          clear hna hki
          go_wp2
          exact ⟨⟨k + 1, by omega, y5 k, val_eq (by rw [HS.out]; rfl), hb2⟩, by simp [intOf]; omega⟩
    · have hk16 : k = 16 := by omega
      have HN : Hid (numAt t k = numN t) := Lib.hid (by unfold numN; rw [hk16, HZ.out]; rfl)
      rw [HN.out]
      clear hk16
      go_wp2
      go_ret2
      exact ⟨rfl, hb⟩
set_option maxHeartbeats 2000000 in
theorem read_bad (t : ByteArray) (hz : t.size = 16) (hl : Bad t) (w : World) :
    Calls Tryd.prog 37 #[.string t] w fun e w' => e = .returned (.tuple #[.int .u64 0, .bool false]) ∧ Below w.heap.size w w' := by
  have HL := Lib.hid hl
  have HZ := Lib.hid hz
  clear hl
  go_enter Tryd.func37, Tryd.ntmps37
  go_wp2_with fail
  go_loopw [4, 5] (fun n i wr => ∃ k : Nat, k ≤ 16 ∧ i = .int .i64 k ∧ n = .int .u64 (numAt t k : Int) ∧ Below w.heap.size w wr ∧ (∀ j (h : j < t.size), j < k → lowN t[j].toNat)) (fun _ i _ => 16 - (intOf i).toNat)
  case atStart => exact ⟨0, Nat.zero_le _, rfl, rfl, Below.refl _ _, fun j h h2 => absurd h2 (by omega)⟩
  case round =>
    obtain ⟨k, hk, rfl, rfl, hb, hall⟩ := hrel
    have HALL := Lib.hid hall
    clear hall
    by_cases h2 : k < 16
    · have h1 : k < t.size := by omega
      have hb256 : t[k].toNat < 256 := t[k].toNat_lt
      have HS := Lib.hid (numAt_succ t k h1)
      have hna := numAt_bd t k h2
      generalize numAt t k = a at *
      go_wp2_with fail
      go_loopw [6, 7] (fun d j wr => ∃ q : Nat, q ≤ 16 ∧ j = .int .i64 q ∧ d = .int .i64 (dKi t[k].toNat q) ∧ Below w.heap.size w wr) (fun _ j _ => 16 - (intOf j).toNat)
      case atStart => exact ⟨0, Nat.zero_le _, rfl, by simp [dKi], hb⟩
      case round =>
        obtain ⟨q, hq, rfl, rfl, hb2⟩ := hrel
        by_cases hqt : q < 16
        · have hG := hex16_get q hqt (show q < 16 from hqt)
          by_cases hT : hdI q = (t[k].toNat : Int)
          · have HY := Lib.hid (dKi_yes hqt hT)
            have hT2 : ((t[k].toNat : Int) == hdI q) = true := by rw [beq_iff_eq]; exact hT.symm
            clear hT
            go_wp2_with fail
            go_quiet (fail)
            go_wp2
            exact ⟨⟨q + 1, by omega, y5 q, val_eq (by rw [HY.out]), hb2.trans ⟨rfl, rfl, rfl, Nat.le_refl _, fun _ _ => rfl⟩⟩, by simp [intOf]; omega⟩
          · have HY := Lib.hid (dKi_no hqt hT)
            have hT2 : ((t[k].toNat : Int) == hdI q) = false := by rw [beq_eq_false_iff_ne]; exact fun h => hT h.symm
            clear hT
            go_wp2_with fail
            go_quiet (fail)
            go_wp2
            exact ⟨⟨q + 1, by omega, y5 q, val_eq (by rw [HY.out]), hb2.trans ⟨rfl, rfl, rfl, Nat.le_refl _, fun _ _ => rfl⟩⟩, by simp [intOf]; omega⟩
        · obtain rfl : q = 16 := by omega
          by_cases hlo : lowN t[k].toNat
          · have hki := dKi_low hlo
            rw [hki]
            have HLo := Lib.hid hlo
            have hdv := dV_lt t[k].toNat
            generalize dV t[k].toNat = d at *
            have hw2 : IntKind.u64.wrap ((a : Int) * 16 + (d : Int)) = (a : Int) * 16 + (d : Int) := by rw [IntKind.wrap_u64]; omega
            have hw1 : IntKind.u64.wrap ((a : Int) * 16) = (a : Int) * 16 := by rw [IntKind.wrap_u64]; omega
            clear hna hki hlo
            go_wp2
            exact ⟨⟨k + 1, by omega, y5 k, val_eq (by rw [HS.out]; rfl), hb2, fun j h h2 => by
              rcases Nat.lt_or_ge j k with h3 | h3
              · exact HALL.out j h h3
              · obtain rfl : j = k := by omega
                exact HLo.out⟩, by simp [intOf]; omega⟩
          · have hki := dKi_bad hlo 16
            rw [hki]
            clear hlo hna hki
            go_wp2
            go_ret2
            exact ⟨rfl, hb2⟩
    · exact absurd (fun j h => HALL.out j h (by omega)) HL.out
end Go.Proofs.YtacdfhgamjinbaaDoor
