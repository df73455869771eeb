/-
  MATHEMATICS of card numbers: decimal digits, groups, masks.
-/
import Derived.Test.YtjemljhfopgmiaaGreatDoorPMath
import Derived.Lib.ItoaMem
import Derived.Lib.AppendIntMem
namespace Go.Proofs.YtjemljhfopgmiaaGreatDoor
open Go.Lib
set_option linter.unusedVariables false
def dcL (u d : Nat) : List UInt8 := (List.range d).map fun t => dg u (d - 1 - t)
def decS (u d : Nat) : ByteArray := ⟨(dcL u d).toArray⟩
theorem dcL_len (u d : Nat) : (dcL u d).length = d := by simp [dcL]
theorem decS_size (u d : Nat) : (decS u d).size = d := by show (dcL u d).toArray.size = d; simp [dcL]
theorem decS_all (u : Nat) : (⟨(decDigits u).toArray⟩ : ByteArray) = decS u (nDigits u) := by unfold decS dcL; rw [decDigits_eq]
theorem dcL_cons (u d : Nat) : dcL u (d + 1) = dg u d :: dcL u d := by
  unfold dcL
  rw [List.range_succ_eq_map, List.map_cons, List.map_map]
  congr 1
  apply List.map_congr_left
  intro t ht
  simp only [Function.comp]
  congr 1
  omega
theorem decS_cons (u d : Nat) : (⟨#[dg u d]⟩ : ByteArray) ++ decS u d = decS u (d + 1) := by
  apply ByteArray.ext
  rw [ByteArray.data_append]
  simp [decS, dcL_cons]
theorem decS_pad {u d : Nat} (h : u < 10 ^ d) : (⟨#[48]⟩ : ByteArray) ++ decS u d = decS u (d + 1) := by
  rw [← decS_cons]
  congr 3
  unfold dg
  rw [Nat.div_eq_of_lt h]
  rfl
theorem dg_val (u d : Nat) : ((dg u d).toNat : Int) = 48 + ((u / 10 ^ d % 10 : Nat) : Int) := by
  unfold dg
  have : u / 10 ^ d % 10 < 10 := Nat.mod_lt _ (by omega)
  rw [UInt8.toNat_ofNat']
  omega
theorem byt_decS (u d k : Nat) (h : k < d) : byt (decS u d) k = 48 + ((u / 10 ^ (d - 1 - k) % 10 : Nat) : Int) := by
  rw [byt, ← dg_val]
  show (((dcL u d).getD k 0).toNat : Int) = _
  rw [List.getD_eq_getElem?_getD, List.getElem?_eq_getElem (by rw [dcL_len]; exact h)]
  simp [dcL]
theorem dgs_decS (u d : Nat) : Dgs (decS u d) := by
  intro k hk
  rw [decS_size] at hk
  unfold dgAt
  rw [byt_decS u d k hk]
  have : u / 10 ^ (d - 1 - k) % 10 < 10 := Nat.mod_lt _ (by omega)
  omega
theorem byt_extract (s : ByteArray) (a b k : Nat) (hb : b ≤ s.size) (h : k < b - a) : byt (s.extract a b) k = byt s (a + k) := by
  rw [byt, byt, ByteArray.data_extract, Array.toList_extract, List.getD_eq_getElem?_getD, List.getD_eq_getElem?_getD]
  simp [List.extract, List.getElem?_drop, h]
theorem size_extract' (s : ByteArray) (a b : Nat) (hb : b ≤ s.size) : (s.extract a b).size = b - a := by rw [ByteArray.size_extract]; omega
theorem extract_one (s : ByteArray) (k : Nat) (h : k < s.size) : s.extract k (k + 1) = one (byt s k) := by
  apply byt_ext
  · rw [size_extract' _ _ _ (by omega), one_size]; omega
  · intro j hj
    rw [size_extract' _ _ _ (by omega)] at hj
    obtain rfl : j = 0 := by omega
    have := (s[k]).toNat_lt
    rw [byt_extract _ _ _ _ (by omega) (by omega), byt_one _ (by rw [byt_get s k h]; omega) (by rw [byt_get s k h]; omega), Nat.add_zero]
theorem byt_bd (s : ByteArray) (k : Nat) : 0 ≤ byt s k ∧ byt s k ≤ 255 := by
  unfold byt
  have := (s.data.toList.getD k 0).toNat_lt
  omega
/-- A masked text: what can be read of it. -/
def maskAt (s : ByteArray) (b : Bool) (k : Nat) : Int := if b && (decide (k < 6) || decide (s.size ≤ k + 4)) then byt s k else 42
def IsMask (s : ByteArray) (b : Bool) (r : ByteArray) : Prop := r.size = s.size ∧ ∀ k, k < s.size → byt r k = maskAt s b k
theorem IsMask.uniq {s : ByteArray} {b : Bool} {r t : ByteArray} (h : IsMask s b r) (g : IsMask s b t) : r = t := byt_ext (h.1.trans g.1.symm) (fun k hk => by rw [h.2 k (by rw [← h.1]; exact hk), g.2 k (by rw [← h.1]; exact hk)])
/-- The first k bytes in groups of four. -/
def grp (s : ByteArray) : Nat → ByteArray
  | 0 => ByteArray.empty
  | k + 1 => (if 0 < k ∧ k % 4 = 0 then grp s k ++ one 32 else grp s k) ++ one (byt s k)
/-- The number that the bytes from a to k write. -/
def numOf (s : ByteArray) (a : Nat) : Nat → Int
  | 0 => 0
  | k + 1 => 10 * numOf s a k + (byt s (a + k) - 48)
theorem numOf_bd (s : ByteArray) (a : Nat) : ∀ k, (∀ j, j < k → dgAt s (a + j)) → 0 ≤ numOf s a k ∧ numOf s a k < 10 ^ k
  | 0, _ => by simp [numOf]
  | k + 1, h => by
    have h1 := numOf_bd s a k (fun j hj => h j (by omega))
    have h2 := h k (by omega)
    unfold dgAt at h2
    rw [numOf, Int.pow_succ]
    omega
theorem numOf_decS (n d : Nat) : ∀ k, k ≤ d → numOf (decS n d) 0 k = ((n / 10 ^ (d - k) % 10 ^ k : Nat) : Int)
  | 0, _ => by simp [numOf, Nat.mod_one]
  | k + 1, h => by
    rw [numOf, numOf_decS n d k (by omega), Nat.zero_add, byt_decS n d k (by omega)]
    have e : d - k = (d - (k + 1)) + 1 := by omega
    have e2 : d - 1 - k = d - (k + 1) := by omega
    rw [e, e2, Nat.pow_succ, ← Nat.div_div_eq_div_mul]
    generalize n / 10 ^ (d - (k + 1)) = m
    rw [show 10 ^ (k + 1) = 10 * 10 ^ k by rw [Nat.pow_succ, Nat.mul_comm], Nat.mod_mul]
    omega
theorem numOf_ext {s t : ByteArray} {a b : Nat} : ∀ k, (∀ j, j < k → byt s (a + j) = byt t (b + j)) → numOf s a k = numOf t b k
  | 0, _ => rfl
  | k + 1, h => by rw [numOf, numOf, numOf_ext k (fun j hj => h j (by omega)), h k (by omega)]
/-- Digits are the digits of the number they write. -/
theorem decS_numOf (s : ByteArray) (a : Nat) : ∀ k, (∀ j, j < k → dgAt s (a + j)) → a + k ≤ s.size → decS (numOf s a k).toNat k = s.extract a (a + k)
  | 0, _, h => by
    apply byt_ext
    · rw [decS_size, size_extract' _ _ _ h]; omega
    · intro j hj; rw [decS_size] at hj; omega
  | k + 1, h, hz => by
    have ih := decS_numOf s a k (fun j hj => h j (by omega)) (by omega)
    have hb := numOf_bd s a k (fun j hj => h j (by omega))
    have h2 := h k (by omega)
    unfold dgAt at h2
    apply byt_ext
    · rw [decS_size, size_extract' _ _ _ hz]; omega
    · intro j hj
      rw [decS_size] at hj
      rw [byt_decS _ _ _ hj, byt_extract _ _ _ _ hz (by omega), numOf]
      have e : (10 * numOf s a k + (byt s (a + k) - 48)).toNat = 10 * (numOf s a k).toNat + (byt s (a + k) - 48).toNat := by omega
      rw [e]
      rcases Nat.lt_or_ge j k with hl | hl
      · have hj2 : byt (decS (numOf s a k).toNat k) j = byt (s.extract a (a + k)) j := by rw [ih]
        rw [byt_decS _ _ _ hl, byt_extract _ _ _ _ (by omega) (by omega)] at hj2
        rw [← hj2, show k + 1 - 1 - j = (k - 1 - j) + 1 by omega, Nat.pow_succ, Nat.mul_comm (10 ^ (k - 1 - j)) 10, ← Nat.div_div_eq_div_mul]
        congr 4
        omega
      · obtain rfl : j = k := by omega
        rw [show j + 1 - 1 - j = 0 by omega]
        simp only [Nat.pow_zero, Nat.div_one]
        omega
end Go.Proofs.YtjemljhfopgmiaaGreatDoor
