/-
  THE NUMBER that a text of hexadecimal digits denotes; the specification's Number.
-/
import Derived.Test.YtkobhepiacfehaaDoorKAwake
import Derived.Deep.QuietTactic
import Derived.BigQuiet
namespace Go.Proofs.YtkobhepiacfehaaDoor
open Go.RowKit
set_option linter.unusedVariables false
def lowN (b : Nat) : Prop := (48 ≤ b ∧ b ≤ 57) ∨ (97 ≤ b ∧ b ≤ 102)
instance (b : Nat) : Decidable (lowN b) := by unfold lowN; infer_instance
def dV (b : Nat) : Nat := if 48 ≤ b ∧ b ≤ 57 then b - 48 else if 97 ≤ b ∧ b ≤ 102 then b - 87 else 0
theorem dV_lt (b : Nat) : dV b < 16 := by unfold dV; (repeat' split) <;> omega
theorem dV_no {b : Nat} (h : ¬ lowN b) : dV b = 0 := by unfold lowN at h; unfold dV; (repeat' split) <;> omega
theorem hd_dV {b : Nat} (h : lowN b) : hdI (dV b) = (b : Int) := by unfold lowN at h; unfold dV hdI; (repeat' split) <;> omega
theorem hd_iff {k c : Nat} (hk : k < 16) : hdI k = (c : Int) ↔ (lowN c ∧ dV c = k) := by
  unfold lowN dV hdI
  constructor
  · intro h
    (repeat' split at h) <;> (repeat' split) <;> omega
  · rintro ⟨h1, h2⟩
    (repeat' split at h2) <;> (repeat' split) <;> omega
def numAt (s : ByteArray) : Nat → Nat
  | 0 => 0
  | k + 1 => numAt s k * 16 + dV (s.data.toList.getD k 0).toNat
def numN (s : ByteArray) : Nat := numAt s (min s.size 16)
theorem numAt_lt (s : ByteArray) : ∀ k, numAt s k < 16 ^ k
  | 0 => by simp [numAt]
  | k + 1 => by
    have := numAt_lt s k
    have := dV_lt (s.data.toList.getD k 0).toNat
    rw [numAt, Nat.pow_succ]
    omega
theorem numN_lt (s : ByteArray) : numN s < 18446744073709551616 :=
  Nat.lt_of_lt_of_le (numAt_lt s _) (by rw [show (18446744073709551616 : Nat) = 16 ^ 16 from rfl]; exact Nat.pow_le_pow_right (by decide) (by omega))
theorem numAt_digit (s : ByteArray) : ∀ (k i : Nat), i < k → numAt s k / 16 ^ (k - 1 - i) % 16 = dV (s.data.toList.getD i 0).toNat
  | 0, i, h => absurd h (by omega)
  | k + 1, i, h => by
    have hd := dV_lt (s.data.toList.getD k 0).toNat
    by_cases e : i = k
    · subst e
      rw [numAt, show i + 1 - 1 - i = 0 by omega, Nat.pow_zero, Nat.div_one]
      omega
    · have ih := numAt_digit s k i (by omega)
      rw [numAt, show k + 1 - 1 - i = (k - 1 - i) + 1 by omega, Nat.pow_succ, Nat.mul_comm (16 ^ (k - 1 - i)) 16, ← Nat.div_div_eq_div_mul, show (numAt s k * 16 + dV (s.data.toList.getD k 0).toNat) / 16 = numAt s k by omega]
      exact ih
theorem size_list (s : ByteArray) : s.data.toList.length = s.size := rfl
/-- Sixteen lower-case digits are the text of the number that they denote. -/
theorem low_hex {s : ByteArray} (hs : s.size = 16) (hl : ∀ (k : Nat) (h : k < s.size), lowN s[k].toNat) : hexS (numN s) 16 = s := by
  apply ByteArray.ext
  apply Array.toList_inj.1
  apply List.ext_getElem
  · rw [size_list, size_list, hexS_size, hs]
  · intro i h1 h2
    have hi : i < 16 := by rw [size_list, hs] at h2; exact h2
    have hb := hex_byte (numN s) i hi h1
    have hlo := hl i (by rw [hs]; exact hi)
    have hg : (s.data.toList.getD i 0) = s.data.toList[i] := by rw [List.getD_eq_getElem?_getD, List.getElem?_eq_getElem h2]; rfl
    have hn : numN s / 16 ^ (15 - i) % 16 = dV (s.data.toList[i]).toNat := by
      have := numAt_digit s 16 i hi
      rw [hg] at this
      unfold numN
      rw [hs]
      exact this
    rw [hn, hd_dV (show lowN (s.data.toList[i]).toNat from hlo)] at hb
    exact UInt8.toNat_inj.1 (by omega)
/-- What the inner loop has found before the digit k. -/
def dK (c k : Nat) : Nat := if lowN c ∧ dV c < k then dV c else 0
theorem dK_end (c : Nat) : dK c 16 = dV c := by
  unfold dK
  have := dV_lt c
  by_cases h : lowN c
  · rw [if_pos ⟨h, this⟩]
  · rw [if_neg (fun e => h e.1), dV_no h]
theorem dK_yes {c k : Nat} (hk : k < 16) (h : hdI k = (c : Int)) : dK c (k + 1) = k := by
  obtain ⟨h1, h2⟩ := (hd_iff hk).1 h
  unfold dK
  rw [if_pos ⟨h1, by omega⟩, h2]
theorem dK_no {c k : Nat} (hk : k < 16) (h : ¬ hdI k = (c : Int)) : dK c (k + 1) = dK c k := by
  have h1 : ¬ (lowN c ∧ dV c = k) := fun e => h ((hd_iff hk).2 e)
  unfold dK
  by_cases hl : lowN c
  · have h2 : dV c ≠ k := fun e => h1 ⟨hl, e⟩
    by_cases h3 : dV c < k
    · rw [if_pos ⟨hl, show dV c < k + 1 by omega⟩, if_pos ⟨hl, h3⟩]
    · rw [if_neg (fun e => by have := e.2; omega), if_neg (fun e => h3 e.2)]
  · rw [if_neg (fun e => hl e.1), if_neg (fun e => hl e.1)]
theorem dK_le (c k : Nat) : dK c k < 16 := by unfold dK; have := dV_lt c; split <;> omega
theorem hex16_get (k : Nat) (h : k < 16) (h2 : k < (⟨#[48, 49, 50, 51, 52, 53, 54, 55, 56, 57, 97, 98, 99, 100, 101, 102]⟩ : ByteArray).size) :
    (((⟨#[48, 49, 50, 51, 52, 53, 54, 55, 56, 57, 97, 98, 99, 100, 101, 102]⟩ : ByteArray)[k]'h2).toNat : Int) = hdI k := by
  have : ∀ k : Nat, k < 16 → (([48, 49, 50, 51, 52, 53, 54, 55, 56, 57, 97, 98, 99, 100, 101, 102] : List UInt8).getD k 0).toNat = (hdI k : Int) := by decide
  rw [← this k h, List.getD_eq_getElem?_getD, List.getElem?_eq_getElem (show k < 16 from h)]
  rfl
theorem numAt_succ (s : ByteArray) (k : Nat) (h : k < s.size) : numAt s (k + 1) = numAt s k * 16 + dV s[k].toNat := by
  rw [numAt, List.getD_eq_getElem?_getD, List.getElem?_eq_getElem (by rw [size_list]; exact h)]
  rfl
theorem numAt_bd (s : ByteArray) (k : Nat) (h : k < 16) : numAt s k < 1152921504606846976 :=
  Nat.lt_of_lt_of_le (numAt_lt s k) (by rw [show (1152921504606846976 : Nat) = 16 ^ 15 from rfl]; exact Nat.pow_le_pow_right (by decide) (by omega))
set_option maxHeartbeats 2000000 in
theorem rnumber_any (s : ByteArray) (hs : s.size ≤ 1000) (w : World) {b : Bool} (HB : Hid (b = ((hexS (numN s) 16).toList == s.toList))) :
    Calls Tryd.prog 17 #[.string s] w fun e w' => e = .returned (.tuple #[.int .u64 (if b then (numN s : Int) else 0), .int .i64 (if b then 0 else 2)]) ∧ Below w.heap.size w w' := by
  go_enter Tryd.func17, Tryd.ntmps17
  go_wp2_with fail
  go_loopw [4, 5] (fun n i wr => ∃ k : Nat, k ≤ s.size ∧ k ≤ 16 ∧ i = .int .i64 k ∧ n = .int .u64 (numAt s k : Int) ∧ Below w.heap.size w wr) (fun _ i _ => 16 - (intOf i).toNat)
  case atStart => exact ⟨0, Nat.zero_le _, Nat.zero_le _, rfl, rfl, Below.refl _ _⟩
  case round =>
    obtain ⟨k, hk, hk2, rfl, rfl, hb⟩ := hrel
    by_cases hlt : k < s.size ∧ k < 16
    · obtain ⟨h1, h2⟩ := hlt
      have hb256 : s[k].toNat < 256 := s[k].toNat_lt
      have HS := Lib.hid (numAt_succ s k h1)
      have hna := numAt_bd s k h2
      have HE := Lib.hid (dK_end s[k].toNat)
      generalize numAt s k = a at *
      go_wp2_with fail
      go_loopw [6, 7] (fun d j wr => ∃ q : Nat, q ≤ 16 ∧ j = .int .i64 q ∧ d = .int .u64 (dK s[k].toNat q : Int) ∧ Below w.heap.size w wr) (fun _ j _ => 16 - (intOf j).toNat)
      case atStart => exact ⟨0, Nat.zero_le _, rfl, by simp [dK], hb⟩
      case round =>
        obtain ⟨q, hq, rfl, rfl, hb2⟩ := hrel
        by_cases hqt : q < 16
        · have hG := hex16_get q hqt (show q < 16 from hqt)
          have hdk := dK_le s[k].toNat q
          by_cases hT : hdI q = (s[k].toNat : Int)
          · have HY := Lib.hid (dK_yes hqt hT)
            have hT2 : (hdI q == (s[k].toNat : Int)) = true := by rw [beq_iff_eq]; exact hT
            clear hT
            go_wp2_with fail
            go_quiet (fail)
            go_wp2
            exact ⟨⟨q + 1, by omega, y5 q, val_eq (by rw [HY.out]), hb2.trans ⟨rfl, rfl, rfl, Nat.le_refl _, fun _ _ => rfl⟩⟩, by simp [intOf]; omega⟩
          · have HY := Lib.hid (dK_no hqt hT)
            have hT2 : (hdI q == (s[k].toNat : Int)) = false := by rw [beq_eq_false_iff_ne]; exact hT
            clear hT
            go_wp2_with fail
            go_quiet (fail)
            go_wp2
            exact ⟨⟨q + 1, by omega, y5 q, val_eq (by rw [HY.out]), hb2.trans ⟨rfl, rfl, rfl, Nat.le_refl _, fun _ _ => rfl⟩⟩, by simp [intOf]; omega⟩
        · obtain rfl : q = 16 := by omega
          rw [HE.out]
          have hdv := dV_lt s[k].toNat
          generalize dV s[k].toNat = d at *
          have hw2 : IntKind.u64.wrap ((a : Int) * 16 + (d : Int)) = (a : Int) * 16 + (d : Int) := by rw [IntKind.wrap_u64]; omega
          have hw1 : IntKind.u64.wrap ((a : Int) * 16) = (a : Int) * 16 := by rw [IntKind.wrap_u64]; omega
          clear hna
          go_wp2
          exact ⟨⟨k + 1, by omega, by omega, y5 k, val_eq (by rw [HS.out]; rfl), hb2⟩, by simp [intOf]; omega⟩
    · have hkn : k = min s.size 16 := by omega
      have HN : Hid (numAt s k = numN s) := Lib.hid (by unfold numN; rw [hkn])
      rw [HN.out]
      have HX := Lib.hid (fun w' => rtext_any (numN s) (numN_lt s) w')
      have hst : (decide ((k : Int) < (s.size : Int)) && decide ((k : Int) < 16)) = false := by simp; omega
      clear hkn
      by_cases h1 : k < s.size
      · have h2 : 16 ≤ k := by omega
        clear hlt hst
        cases b
        · have hE := HB.out.symm
          go_wp2_with (go_at_call 15; refine (HX.out _).mono ?_; rintro e w1 ⟨rfl, rfl⟩)
          go_ret2
          exact ⟨rfl, hb⟩
        · have hE := HB.out.symm
          go_wp2_with (go_at_call 15; refine (HX.out _).mono ?_; rintro e w1 ⟨rfl, rfl⟩)
          go_ret2
          exact ⟨rfl, hb⟩
      · have h2 : s.size ≤ k := by omega
        clear hlt hst h1
        cases b
        · have hE := HB.out.symm
          go_wp2_with (go_at_call 15; refine (HX.out _).mono ?_; rintro e w1 ⟨rfl, rfl⟩)
          go_ret2
          exact ⟨rfl, hb⟩
        · have hE := HB.out.symm
          go_wp2_with (go_at_call 15; refine (HX.out _).mono ?_; rintro e w1 ⟨rfl, rfl⟩)
          go_ret2
          exact ⟨rfl, hb⟩
end Go.Proofs.YtkobhepiacfehaaDoor
