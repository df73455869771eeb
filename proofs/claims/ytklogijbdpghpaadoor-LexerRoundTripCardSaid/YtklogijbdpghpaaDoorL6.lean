/-
  CONTRACTS of the lexer: texts of both, marks.
-/
import Derived.Test.YtklogijbdpghpaaDoorL5
import Derived.Deep.QuietTactic
import Derived.BigQuiet
namespace Go.Proofs.YtklogijbdpghpaaDoor
open Go.RowKit
set_option linter.unusedVariables false
set_option linter.unusedSimpArgs false
theorem bel_drewN {B : Nat} {a w : World} (h : Below B a w) (n : Nat) : Below B a (w.drewN n) := ⟨h.os, h.tape, h.output, h.size, h.block⟩
def CutQ (s : ByteArray) (q : Nat) (e : Ending) : Prop := (q < s.size → e = .returned (.tuple #[.string (s.extract 0 q), .string (s.extract (q + 1) s.size), .bool true])) ∧ (¬ q < s.size → e = .returned (.tuple #[.string s, .string ⟨#[]⟩, .bool false]))
set_option maxHeartbeats 1600000 in
theorem cut_any (s : ByteArray) (hs : s.size ≤ 10000) {q : Nat} (hqq : quP s 0 = q) (w : World) :
    Calls Tryd.prog 64 #[.string s, .string ⟨#[34]⟩] w fun e w' => CutQ s q e ∧ Below w.heap.size w w' := by
  have HQ := Lib.hid (index_quote s)
  have HL := quP_le s 0 (Nat.zero_le _)
  rw [hqq] at HQ HL
  clear hqq
  go_enter Tryd.func64, Tryd.ntmps64
  go_wp2_with fail
  by_cases hq : q < s.size
  · have IX := Lib.hid (HQ.out.1 hq)
    have CU : Hid (∀ w, Calls Tryd.prog 74 #[.string s, .string ⟨#[34]⟩] w fun e w' => e = .returned (.tuple #[.string (s.extract 0 q), .string (s.extract (q + 1) s.size), .bool true]) ∧ Below w.heap.size w w') := Lib.hid (by
      intro w
      have h1 := fun w => sl_h s q (by omega) (j := (q : Int)) rfl w
      have h2 := fun w => sl_l s (q + 1) (by omega) (i := (q : Int) + 1) (by omega) w
      have hz : (⟨#[34]⟩ : ByteArray).size = 1 := rfl
      go_enter Tryd.func74, Tryd.ntmps74
      go_wp2_with fail
      refine (Tryd.stringslite_Index_one s 34 w).mono ?_
      rintro e w' ⟨rfl, rfl⟩
      rw [IX.out]
      go_wp2_with fail
      go_quiet (fail)
      go_wp2_with fail
      exact bodyPost_ret (v := .tuple #[.string (s.extract 0 q), .string (s.extract (q + 1) s.size), .bool true]) (by simp [results, Tryd.results74, go_sem]) rfl ⟨rfl, (by repeat (first | with_reducible exact Below.refl _ _ | with_reducible assumption | with_reducible refine Below.drew ?_ | with_reducible refine bel_drewN ?_ _))⟩)
    refine (CU.out _).mono ?_
    rintro e w1 ⟨rfl, hb⟩
    go_wp2_with fail
    exact bodyPost_ret (v := .tuple #[.string (s.extract 0 q), .string (s.extract (q + 1) s.size), .bool true]) (by simp [results, Tryd.results64, go_sem]) rfl ⟨⟨fun _ => rfl, fun h => absurd hq h⟩, hb⟩
  · have IX := Lib.hid (HQ.out.2 hq)
    have CU : Hid (∀ w, Calls Tryd.prog 74 #[.string s, .string ⟨#[34]⟩] w fun e w' => e = .returned (.tuple #[.string s, .string ⟨#[]⟩, .bool false]) ∧ Below w.heap.size w w') := Lib.hid (by
      intro w
      go_enter Tryd.func74, Tryd.ntmps74
      go_wp2_with fail
      refine (Tryd.stringslite_Index_one s 34 w).mono ?_
      rintro e w' ⟨rfl, rfl⟩
      rw [IX.out]
      go_wp2_with fail
      exact bodyPost_ret (v := .tuple #[.string s, .string ⟨#[]⟩, .bool false]) (by simp [results, Tryd.results74, go_sem]) rfl ⟨rfl, (by repeat (first | with_reducible exact Below.refl _ _ | with_reducible assumption | with_reducible refine Below.drew ?_ | with_reducible refine bel_drewN ?_ _))⟩)
    refine (CU.out _).mono ?_
    rintro e w1 ⟨rfl, hb⟩
    go_wp2_with fail
    exact bodyPost_ret (v := .tuple #[.string s, .string ⟨#[]⟩, .bool false]) (by simp [results, Tryd.results64, go_sem]) rfl ⟨⟨fun h => absurd h hq, fun _ => rfl⟩, hb⟩
/-- The error of a text that is behind a quotation mark. -/
def litE (u : ByteArray) : Int := if quP u 0 < u.size ∧ prB u 0 (quP u 0) then (if 100 < quP u 0 then 3 else 0) else 2
def litT (u : ByteArray) : ByteArray := if litE u = 0 then u.extract 0 (quP u 0) else ⟨#[]⟩
theorem byt_sub (s : ByteArray) (a b k : Nat) (hb : b ≤ s.size) (h : k < b - a) : byt (s.extract a b) k = byt s (a + k) := by
  rw [byt, byt, ByteArray.data_extract, Array.toList_extract, List.getD_eq_getElem?_getD, List.getD_eq_getElem?_getD]
  simp [List.extract, List.getElem?_drop, h]
theorem size_sub (s : ByteArray) (a b : Nat) (hb : b ≤ s.size) : (s.extract a b).size = b - a := by rw [ByteArray.size_extract]; omega
set_option maxHeartbeats 1600000 in
theorem literal_any (s : ByteArray) (hs : s.size ≤ 10000) (w : World) {t : ByteArray} {c : Int} (ht : litT s = t) (hc : litE s = c) :
    Calls Tryd.prog 49 #[.string s] w fun e w' => e = .returned (.tuple #[.string t, .int .i64 c]) ∧ Below w.heap.size w w' := by
  obtain ⟨q, hq⟩ : ∃ q, quP s 0 = q := ⟨_, rfl⟩
  have hl := quP_le s 0 (Nat.zero_le _)
  have hE : litE s = if q < s.size ∧ prB s 0 q then (if 100 < q then 3 else 0) else 2 := by unfold litE; rw [hq]
  have hT : litT s = if litE s = 0 then s.extract 0 q else ⟨#[]⟩ := by unfold litT; rw [hq]
  rw [hq] at hl
  rw [hc] at hE hT
  rw [ht] at hT
  clear ht hc
  go_enter Tryd.func49, Tryd.ntmps49
  go_wp2_with fail
  refine (cut_any s hs hq _).mono ?_
  rintro e w1 ⟨⟨hY, hN⟩, hb⟩
  clear hq
  by_cases hlt : q < s.size
  · obtain rfl := hY hlt
    clear hY hN
    obtain ⟨u, hu⟩ : ∃ u, s.extract 0 q = u := ⟨_, rfl⟩
    obtain ⟨z, hz⟩ : ∃ z, s.extract (q + 1) s.size = z := ⟨_, rfl⟩
    have husz : u.size = q := by rw [← hu, size_sub _ _ _ (by omega)]; omega
    have hub : ∀ k, k < q → byt u k = byt s k := fun k hk => by rw [← hu, byt_sub _ _ _ _ (by omega) (by omega), Nat.zero_add]
    have HUB := Lib.hid hub
    have HE := Lib.hid hE
    have HT := Lib.hid hT
    rw [hu] at HT ⊢
    rw [hz]
    clear hu hz hub hE hT
    go_wp2_with fail
    go_loop [7] (fun i => ∃ k : Nat, k ≤ q ∧ i = .int .i64 k ∧ Hid (∀ j, j < k → 32 ≤ byt s j ∧ byt s j ≤ 126)) (fun i => q - (intOf i).toNat)
    case atStart => exact ⟨0, Nat.zero_le _, rfl, Lib.hid fun j h => absurd h (by omega)⟩
    case round =>
      obtain ⟨k, hk, rfl, HA⟩ := hrel
      by_cases hlk : k < q
      · have hx := fun w => ix_at u k (by omega) (i := (k : Int)) rfl w
        rw [HUB.out k hlk] at hx
        have HB := byt_bd s k
        by_cases hlo : byt s k < 32
        · have HE2 : Hid (c = 2 ∧ t = ⟨#[]⟩) := Lib.hid (by
            have h1 : c = 2 := by rw [HE.out, if_neg]; rintro ⟨-, h⟩; rw [prB_bad (Nat.zero_le k) hlk (by omega)] at h; cases h
            exact ⟨h1, by rw [HT.out, if_neg (by omega)]⟩)
          have d1 : decide (byt s k < 32) = true := decide_eq_true hlo
          clear hlo
          go_wp2_with fail
          go_ret2
          exact ⟨by rw [HE2.out.1, HE2.out.2]; rfl, hb⟩
        · have d1 : decide (byt s k < 32) = false := decide_eq_false hlo
          by_cases hhi : 126 < byt s k
          · have HE2 : Hid (c = 2 ∧ t = ⟨#[]⟩) := Lib.hid (by
              have h1 : c = 2 := by rw [HE.out, if_neg]; rintro ⟨-, h⟩; rw [prB_bad (Nat.zero_le k) hlk (by omega)] at h; cases h
              exact ⟨h1, by rw [HT.out, if_neg (by omega)]⟩)
            have d2 : decide (126 < byt s k) = true := decide_eq_true hhi
            clear hlo hhi
            go_wp2_with fail
            go_ret2
            exact ⟨by rw [HE2.out.1, HE2.out.2]; rfl, hb⟩
          · have d2 : decide (126 < byt s k) = false := decide_eq_false hhi
            have HA2 : Hid (∀ j, j < k + 1 → 32 ≤ byt s j ∧ byt s j ≤ 126) := Lib.hid fun j h => by
              rcases Nat.lt_or_ge j k with h1 | h1
              · exact HA.out j h1
              · obtain rfl : j = k := by omega
                omega
            clear hlo hhi
            go_wp2_with fail
            go_round
            case rel => exact ⟨k + 1, by omega, by go_num, HA2⟩
            case measure => simp [intOf]; omega
      · obtain rfl : k = q := by omega
        have hpr : prB s 0 k = true := (prB_iff s 0 k).2 fun j _ h => HA.out j h
        have hE3 : c = if 100 < k then 3 else 0 := by rw [HE.out, if_pos ⟨hlt, hpr⟩]
        by_cases h100 : 100 < k
        · have HE2 : Hid (c = 3 ∧ t = ⟨#[]⟩) := Lib.hid (by
            have h1 : c = 3 := by rw [hE3, if_pos h100]
            exact ⟨h1, by rw [HT.out, if_neg (by omega)]⟩)
          have d1 : decide ((100 : Int) < (k : Int)) = true := decide_eq_true (by omega)
          clear hE3 h100
          go_wp2_with fail
          go_ret2
          exact ⟨by rw [HE2.out.1, HE2.out.2]; rfl, hb⟩
        · have HE2 : Hid (c = 0 ∧ t = u) := Lib.hid (by
            have h1 : c = 0 := by rw [hE3, if_neg h100]
            exact ⟨h1, by rw [HT.out, if_pos h1]⟩)
          have d1 : decide ((100 : Int) < (k : Int)) = false := decide_eq_false (by omega)
          clear hE3 h100
          go_wp2_with fail
          go_ret2
          exact ⟨by rw [HE2.out.1, HE2.out.2]; rfl, hb⟩
  · obtain rfl := hN hlt
    have HE2 : Hid (c = 2 ∧ t = ⟨#[]⟩) := Lib.hid (by
      have h1 : c = 2 := by rw [hE, if_neg (fun h => hlt h.1)]
      exact ⟨h1, by rw [hT, if_neg (by omega)]⟩)
    clear hY hN hE hT
    go_wp2_with fail
    go_ret2
    exact ⟨by rw [HE2.out.1, HE2.out.2]; rfl, hb⟩
end Go.Proofs.YtklogijbdpghpaaDoor
