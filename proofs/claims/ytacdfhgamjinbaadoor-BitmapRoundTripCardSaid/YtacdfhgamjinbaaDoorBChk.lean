/-
  THE NUMBER that a text of hexadecimal digits denotes.
-/
import Derived.Test.YtacdfhgamjinbaaDoorBNum
import Derived.Deep.QuietTactic
import Derived.BigQuiet
namespace Go.Proofs.YtacdfhgamjinbaaDoor
open Go.RowKit
set_option linter.unusedVariables false
def lowN (b : Nat) : Prop := (48 ≤ b ∧ b ≤ 57) ∨ (97 ≤ b ∧ b ≤ 102)
instance (b : Nat) : Decidable (lowN b) := by unfold lowN; infer_instance
def dV (b : Nat) : Nat := if 48 ≤ b ∧ b ≤ 57 then b - 48 else if 97 ≤ b ∧ b ≤ 102 then b - 87 else 0
theorem dV_lt (b : Nat) : dV b < 16 := by unfold dV; (repeat' split) <;> omega
theorem dV_no {b : Nat} (h : ¬ lowN b) : dV b = 0 := by unfold lowN at h; unfold dV; (repeat' split) <;> omega
theorem hd_dV {b : Nat} (h : lowN b) : hdI (dV b) = (b : Int) := by unfold lowN at h; unfold dV hdI; (repeat' split) <;> omega
theorem hd_iff {k c : Nat} (hk : k < 16) : hdI k = (c : Int) ↔ (lowN c ∧ dV c = k) := by
  unfold lowN dV hdI
  constructor
  · intro h
    (repeat' split at h) <;> (repeat' split) <;> omega
  · rintro ⟨h1, h2⟩
    (repeat' split at h2) <;> (repeat' split) <;> omega
def numAt (s : ByteArray) : Nat → Nat
  | 0 => 0
  | k + 1 => numAt s k * 16 + dV (s.data.toList.getD k 0).toNat
def numN (s : ByteArray) : Nat := numAt s (min s.size 16)
theorem numAt_lt (s : ByteArray) : ∀ k, numAt s k < 16 ^ k
  | 0 => by simp [numAt]
  | k + 1 => by
    have := numAt_lt s k
    have := dV_lt (s.data.toList.getD k 0).toNat
    rw [numAt, Nat.pow_succ]
    omega
theorem numN_lt (s : ByteArray) : numN s < 18446744073709551616 :=
  Nat.lt_of_lt_of_le (numAt_lt s _) (by rw [show (18446744073709551616 : Nat) = 16 ^ 16 from rfl]; exact Nat.pow_le_pow_right (by decide) (by omega))
theorem numAt_digit (s : ByteArray) : ∀ (k i : Nat), i < k → numAt s k / 16 ^ (k - 1 - i) % 16 = dV (s.data.toList.getD i 0).toNat
  | 0, i, h => absurd h (by omega)
  | k + 1, i, h => by
    have hd := dV_lt (s.data.toList.getD k 0).toNat
    by_cases e : i = k
    · subst e
      rw [numAt, show i + 1 - 1 - i = 0 by omega, Nat.pow_zero, Nat.div_one]
      omega
    · have ih := numAt_digit s k i (by omega)
      rw [numAt, show k + 1 - 1 - i = (k - 1 - i) + 1 by omega, Nat.pow_succ, Nat.mul_comm (16 ^ (k - 1 - i)) 16, ← Nat.div_div_eq_div_mul, show (numAt s k * 16 + dV (s.data.toList.getD k 0).toNat) / 16 = numAt s k by omega]
      exact ih
theorem size_list (s : ByteArray) : s.data.toList.length = s.size := rfl
/-- Sixteen lower-case digits are the text of the number that they denote. -/
theorem low_hex {s : ByteArray} (hs : s.size = 16) (hl : ∀ (k : Nat) (h : k < s.size), lowN s[k].toNat) : hexS (numN s) 16 = s := by
  apply ByteArray.ext
  apply Array.toList_inj.1
  apply List.ext_getElem
  · rw [size_list, size_list, hexS_size, hs]
  · intro i h1 h2
    have hi : i < 16 := by rw [size_list, hs] at h2; exact h2
    have hb := hex_byte (numN s) i hi h1
    have hlo := hl i (by rw [hs]; exact hi)
    have hg : (s.data.toList.getD i 0) = s.data.toList[i] := by rw [List.getD_eq_getElem?_getD, List.getElem?_eq_getElem h2]; rfl
    have hn : numN s / 16 ^ (15 - i) % 16 = dV (s.data.toList[i]).toNat := by
      have := numAt_digit s 16 i hi
      rw [hg] at this
      unfold numN
      rw [hs]
      exact this
    rw [hn, hd_dV (show lowN (s.data.toList[i]).toNat from hlo)] at hb
    exact UInt8.toNat_inj.1 (by omega)
/-- What the inner loop has found before the digit k. -/
def dK (c k : Nat) : Nat := if lowN c ∧ dV c < k then dV c else 0
theorem dK_end (c : Nat) : dK c 16 = dV c := by
  unfold dK
  have := dV_lt c
  by_cases h : lowN c
  · rw [if_pos ⟨h, this⟩]
  · rw [if_neg (fun e => h e.1), dV_no h]
theorem dK_yes {c k : Nat} (hk : k < 16) (h : hdI k = (c : Int)) : dK c (k + 1) = k := by
  obtain ⟨h1, h2⟩ := (hd_iff hk).1 h
  unfold dK
  rw [if_pos ⟨h1, by omega⟩, h2]
theorem dK_no {c k : Nat} (hk : k < 16) (h : ¬ hdI k = (c : Int)) : dK c (k + 1) = dK c k := by
  have h1 : ¬ (lowN c ∧ dV c = k) := fun e => h ((hd_iff hk).2 e)
  unfold dK
  by_cases hl : lowN c
  · have h2 : dV c ≠ k := fun e => h1 ⟨hl, e⟩
    by_cases h3 : dV c < k
    · rw [if_pos ⟨hl, show dV c < k + 1 by omega⟩, if_pos ⟨hl, h3⟩]
    · rw [if_neg (fun e => by have := e.2; omega), if_neg (fun e => h3 e.2)]
  · rw [if_neg (fun e => hl e.1), if_neg (fun e => hl e.1)]
theorem dK_le (c k : Nat) : dK c k < 16 := by unfold dK; have := dV_lt c; split <;> omega
theorem hex16_get (k : Nat) (h : k < 16) (h2 : k < (⟨#[48, 49, 50, 51, 52, 53, 54, 55, 56, 57, 97, 98, 99, 100, 101, 102]⟩ : ByteArray).size) :
    (((⟨#[48, 49, 50, 51, 52, 53, 54, 55, 56, 57, 97, 98, 99, 100, 101, 102]⟩ : ByteArray)[k]'h2).toNat : Int) = hdI k := by
  have : ∀ k : Nat, k < 16 → (([48, 49, 50, 51, 52, 53, 54, 55, 56, 57, 97, 98, 99, 100, 101, 102] : List UInt8).getD k 0).toNat = (hdI k : Int) := by decide
  rw [← this k h, List.getD_eq_getElem?_getD, List.getElem?_eq_getElem (show k < 16 from h)]
  rfl
theorem numAt_succ (s : ByteArray) (k : Nat) (h : k < s.size) : numAt s (k + 1) = numAt s k * 16 + dV s[k].toNat := by
  rw [numAt, List.getD_eq_getElem?_getD, List.getElem?_eq_getElem (by rw [size_list]; exact h)]
  rfl
theorem numAt_bd (s : ByteArray) (k : Nat) (h : k < 16) : numAt s k < 1152921504606846976 :=
  Nat.lt_of_lt_of_le (numAt_lt s k) (by rw [show (1152921504606846976 : Nat) = 16 ^ 15 from rfl]; exact Nat.pow_le_pow_right (by decide) (by omega))
end Go.Proofs.YtacdfhgamjinbaaDoor
