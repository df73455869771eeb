/-
  MATHEMATICS of card numbers: bytes, digits, the sum of Luhn.
-/
import Derived.WalkKit
namespace Go.Proofs.YtklogijbdpghpaaDoor
set_option linter.unusedVariables false
def cnt (d : Int) (b : Bool) : Int := if b then (if 9 < d * 2 then d * 2 - 9 else d * 2) else (if 9 < d then d - 9 else d)
/-- A byte of a text, 0 behind its end. -/
def byt (s : ByteArray) (k : Nat) : Int := ((s.data.toList.getD k 0).toNat : Int)
def dgAt (s : ByteArray) (k : Nat) : Prop := 48 ≤ byt s k ∧ byt s k ≤ 57
def Dgs (s : ByteArray) : Prop := ∀ k, k < s.size → dgAt s k
theorem byt_get (s : ByteArray) (k : Nat) (h : k < s.size) : byt s k = (s[k].toNat : Int) := by
  rw [byt, List.getD_eq_getElem?_getD, List.getElem?_eq_getElem (by simpa using h)]; rfl
theorem byt_left (s t : ByteArray) (k : Nat) (h : k < s.size) : byt (s ++ t) k = byt s k := by
  rw [byt, byt, ByteArray.data_append, Array.toList_append, List.getD_eq_getElem?_getD, List.getD_eq_getElem?_getD, List.getElem?_append_left (by simpa using h)]
theorem byt_right (s t : ByteArray) (k : Nat) (h : s.size ≤ k) : byt (s ++ t) k = byt t (k - s.size) := by
  rw [byt, byt, ByteArray.data_append, Array.toList_append, List.getD_eq_getElem?_getD, List.getD_eq_getElem?_getD, List.getElem?_append_right (by simpa using h)]
  rfl
theorem byt_ext {s t : ByteArray} (hz : s.size = t.size) (h : ∀ k, k < s.size → byt s k = byt t k) : s = t := by
  apply ByteArray.ext
  apply Array.ext'
  apply List.ext_getElem (by simpa using hz)
  intro k h1 h2
  have h3 := h k (by simpa using h1)
  rw [byt, byt, List.getD_eq_getElem?_getD, List.getD_eq_getElem?_getD, List.getElem?_eq_getElem h1, List.getElem?_eq_getElem h2] at h3
  simp only [Option.getD_some] at h3
  exact UInt8.toNat_inj.1 (by omega)
/-- The sum of the check of Luhn: the last digit has the number f. -/
def lsum (s : ByteArray) (f : Nat) : Nat → Int
  | 0 => 0
  | k + 1 => lsum s f k + cnt (byt s k - 48) (((s.size : Int) - 1 - (k : Int) + (f : Int)) % 2 == 0)
theorem cnt_bd (d : Int) (b : Bool) (h0 : 0 ≤ d) (h1 : d ≤ 9) : 0 ≤ cnt d b ∧ cnt d b ≤ 9 := by unfold cnt; cases b <;> simp <;> split <;> omega
theorem lsum_bd (s : ByteArray) (f : Nat) (hs : Dgs s) : ∀ k, k ≤ s.size → 0 ≤ lsum s f k ∧ lsum s f k ≤ 9 * k
  | 0, _ => by simp [lsum]
  | k + 1, h => by
    have h1 := lsum_bd s f hs k (by omega)
    have h2 := hs k (by omega)
    unfold dgAt at h2
    have h3 := cnt_bd (byt s k - 48) (((s.size : Int) - 1 - (k : Int) + (f : Int)) % 2 == 0) (by omega) (by omega)
    rw [lsum]
    omega
/-- Luhn, of a text of digits. -/
def luhnP (s : ByteArray) : Prop := lsum s 1 s.size % 10 = 0
theorem lsum_left (s t : ByteArray) (f g : Nat) (hf : f + t.size = g) : ∀ k, k ≤ s.size → lsum (s ++ t) f k = lsum s g k
  | 0, _ => rfl
  | k + 1, h => by
    rw [lsum, lsum, lsum_left s t f g hf k (by omega), byt_left s t k (by omega), ByteArray.size_append]
    congr 3
    omega
def one (c : Int) : ByteArray := ⟨#[UInt8.ofNat c.toNat]⟩
theorem one_size (c : Int) : (one c).size = 1 := rfl
theorem byt_one (c : Int) (h0 : 0 ≤ c) (h1 : c ≤ 255) : byt (one c) 0 = c := by
  show ((UInt8.ofNat c.toNat).toNat : Int) = c
  rw [UInt8.toNat_ofNat']
  omega
theorem lsum_app (s : ByteArray) (q : Nat) (hq : q ≤ 9) : lsum (s ++ one (48 + q)) 1 (s ++ one (48 + q)).size = lsum s 2 s.size + q := by
  rw [ByteArray.size_append, one_size, lsum, lsum_left s _ 1 2 (by rw [one_size]) _ (Nat.le_refl _), byt_right s _ s.size (Nat.le_refl _), Nat.sub_self, byt_one _ (by omega) (by omega), ByteArray.size_append, one_size]
  congr 1
  rw [show (((s.size + 1 : Nat) : Int) - 1 - (s.size : Int) + ((1 : Nat) : Int)) % 2 = 1 by omega]
  unfold cnt
  simp
  omega
/-- The digit that makes a text satisfy the check. -/
def cdN (s : ByteArray) : Nat := ((10 - lsum s 2 s.size % 10) % 10).toNat
theorem cd_le (s : ByteArray) : cdN s ≤ 9 := by unfold cdN; omega
theorem cd_iff (s : ByteArray) (q : Nat) (hq : q ≤ 9) : luhnP (s ++ one (48 + q)) ↔ q = cdN s := by
  unfold luhnP cdN
  rw [lsum_app s q hq]
  omega
theorem dgs_app {s t : ByteArray} (hs : Dgs s) (ht : Dgs t) : Dgs (s ++ t) := by
  intro k hk
  unfold dgAt
  rw [ByteArray.size_append] at hk
  rcases Nat.lt_or_ge k s.size with h | h
  · rw [byt_left s t k h]; exact hs k h
  · rw [byt_right s t k h]; exact ht _ (by omega)
theorem dgs_one (q : Nat) (hq : q ≤ 9) : Dgs (one (48 + q)) := by
  intro k hk
  rw [one_size] at hk
  obtain rfl : k = 0 := by omega
  unfold dgAt
  rw [byt_one _ (by omega) (by omega)]
  omega
theorem dgs_left {s t : ByteArray} (h : Dgs (s ++ t)) : Dgs s := fun k hk => by
  have := h k (by rw [ByteArray.size_append]; omega)
  unfold dgAt at *
  rwa [byt_left s t k hk] at this
end Go.Proofs.YtklogijbdpghpaaDoor
