/-
  CONTRACTS of card numbers: Luhn at the texts of the law PanDetects.
-/
import Derived.Test.YtddnfjaogekmjaaDoorP21
import Derived.Test.YtddnfjaogekmjaaDoorP18
namespace Go.Proofs.YtddnfjaogekmjaaDoor
open Go.RowKit
set_option linter.unusedVariables false
set_option linter.unusedSimpArgs false
/-- A text with another byte at a place. -/
def put1 (s : ByteArray) (i : Nat) (d : Int) : ByteArray := s.extract 0 i ++ one d ++ s.extract (i + 1) s.size
theorem put1_size {s : ByteArray} {i : Nat} (d : Int) (hi : i < s.size) : (put1 s i d).size = s.size := by
  unfold put1
  rw [ByteArray.size_append, ByteArray.size_append, one_size, size_extract' _ _ _ (by omega), size_extract' _ _ _ (by omega)]
  omega
theorem put1_at {s : ByteArray} {i : Nat} {d : Int} (hi : i < s.size) (h0 : 0 ≤ d) (h1 : d ≤ 255) {j : Nat} (hj : j < s.size) : byt (put1 s i d) j = if j = i then d else byt s j := by
  unfold put1
  have z1 : (s.extract 0 i).size = i := by rw [size_extract' _ _ _ (by omega)]; omega
  rcases Nat.lt_trichotomy j i with h | h | h
  · rw [byt_left _ _ _ (by rw [ByteArray.size_append, one_size, z1]; omega), byt_left _ _ _ (by omega), byt_extract _ _ _ _ (by omega) (by omega), Nat.zero_add, if_neg (by omega)]
  · rw [byt_left _ _ _ (by rw [ByteArray.size_append, one_size, z1]; omega), byt_right _ _ _ (by omega), z1, h, Nat.sub_self, byt_one _ h0 h1, if_pos rfl]
  · rw [byt_right _ _ _ (by rw [ByteArray.size_append, one_size, z1]; omega), ByteArray.size_append, one_size, z1, byt_extract _ _ _ _ (by omega) (by omega), if_neg (by omega)]
    congr 1
    omega
/-- A text with two neighbours exchanged. -/
def swp (s : ByteArray) (i : Nat) : ByteArray := s.extract 0 i ++ one (byt s (i + 1)) ++ one (byt s i) ++ s.extract (i + 2) s.size
theorem swp_size {s : ByteArray} {i : Nat} (hi : i + 1 < s.size) : (swp s i).size = s.size := by
  unfold swp
  rw [ByteArray.size_append, ByteArray.size_append, ByteArray.size_append, one_size, one_size, size_extract' _ _ _ (by omega), size_extract' _ _ _ (by omega)]
  omega
theorem swp_at {s : ByteArray} {i : Nat} (hi : i + 1 < s.size) {j : Nat} (hj : j < s.size) : byt (swp s i) j = if j = i then byt s (i + 1) else if j = i + 1 then byt s i else byt s j := by
  unfold swp
  have z1 : (s.extract 0 i).size = i := by rw [size_extract' _ _ _ (by omega)]; omega
  have b0 := byt_bd s i
  have b1 := byt_bd s (i + 1)
  by_cases h1 : j < i
  · rw [byt_left _ _ _ (by rw [ByteArray.size_append, ByteArray.size_append, one_size, one_size, z1]; omega), byt_left _ _ _ (by rw [ByteArray.size_append, one_size, z1]; omega), byt_left _ _ _ (by omega), byt_extract _ _ _ _ (by omega) (by omega), Nat.zero_add, if_neg (by omega), if_neg (by omega)]
  · by_cases h2 : j = i
    · rw [if_pos h2, byt_left _ _ _ (by rw [ByteArray.size_append, ByteArray.size_append, one_size, one_size, z1]; omega), byt_left _ _ _ (by rw [ByteArray.size_append, one_size, z1]; omega), byt_right _ _ _ (by omega), z1, h2, Nat.sub_self, byt_one _ (by omega) (by omega)]
    · by_cases h3 : j = i + 1
      · rw [if_neg h2, if_pos h3, byt_left _ _ _ (by rw [ByteArray.size_append, ByteArray.size_append, one_size, one_size, z1]; omega), byt_right _ _ _ (by rw [ByteArray.size_append, one_size, z1]; omega), ByteArray.size_append, one_size, z1, h3, Nat.sub_self, byt_one _ (by omega) (by omega)]
      · rw [if_neg h2, if_neg h3, byt_right _ _ _ (by rw [ByteArray.size_append, ByteArray.size_append, one_size, one_size, z1]; omega), ByteArray.size_append, ByteArray.size_append, one_size, one_size, z1, byt_extract _ _ _ _ (by omega) (by omega)]
        congr 1
        omega
open Classical in
theorem luhn_b (s : ByteArray) (hs : s.size ≤ 1000) {b : Bool} (HB : Hid (b = true ↔ 0 < s.size ∧ Dgs s ∧ luhnP s)) (w : World) :
    Calls Tryd.prog 13 #[.string s] w fun e w' => e = .returned (.bool b) ∧ Below w.heap.size w w' := by
  have hb := HB.out
  rcases Nat.eq_zero_or_pos s.size with h0 | h0
  · have : b = false := by
      cases b
      · rfl
      · have := (hb.1 rfl).1; omega
    subst this
    exact luhn_empty s h0 w
  · by_cases hd : Dgs s
    · refine luhn_dg s hs h0 hd (Lib.hid ?_) w
      rw [Bool.eq_iff_iff, hb, decide_eq_true_eq]
      exact ⟨fun h => h.2.2, fun h => ⟨h0, hd, h⟩⟩
    · have : b = false := by
        cases b
        · rfl
        · exact absurd (hb.1 rfl).2.1 hd
      subst this
      exact luhn_bad s hs hd w
theorem luhn_put {s : ByteArray} {i : Nat} {d : Int} (hs : s.size ≤ 1000) (hi : i < s.size) (h0 : 48 ≤ d) (h1 : d ≤ 57) (hd : Dgs s) (hl : luhnP s) (hn : d ≠ byt s i) (w : World) :
    Calls Tryd.prog 13 #[.string (s.extract 0 i ++ one d ++ s.extract (i + 1) s.size)] w fun e w' => e = .returned (.bool false) ∧ Below w.heap.size w w' := by
  have hz := put1_size d hi
  have HX : ¬ (0 < (put1 s i d).size ∧ Dgs (put1 s i d) ∧ luhnP (put1 s i d)) := ?_
  · exact luhn_b (put1 s i d) (b := false) (by omega) (Lib.hid (Iff.intro (fun h => by cases h) (fun h => absurd h HX))) w
  intro h
  have := luhn_one i hi hz.symm hd h.2.1 (fun j hj hne => by rw [put1_at hi (by omega) (by omega) hj, if_neg hne]) hl h.2.2
  rw [put1_at hi (by omega) (by omega) hi, if_pos rfl] at this
  exact hn this.symm
theorem luhn_swp {s : ByteArray} {i : Nat} (hs : s.size ≤ 1000) (hi : i + 1 < s.size) (hd : Dgs s) (hl : luhnP s) (hn : byt s i ≠ byt s (i + 1)) (w : World) :
    Calls Tryd.prog 13 #[.string (s.extract 0 i ++ one (byt s (i + 1)) ++ one (byt s i) ++ s.extract (i + 2) s.size)] w fun e w' => e = .returned (.bool ((byt s i == 48 && byt s (i + 1) == 57) || (byt s i == 57 && byt s (i + 1) == 48))) ∧ Below w.heap.size w w' := by
  have hz := swp_size hi
  have hdt : Dgs (swp s i) := by
    intro j hj
    rw [hz] at hj
    unfold dgAt
    rw [swp_at hi hj]
    split
    · exact hd (i + 1) hi
    · split
      · exact hd i (by omega)
      · exact hd j hj
  have h := luhn_two i hi hz.symm hd (t := swp s i) (fun j hj h1 h2 => by rw [swp_at hi hj, if_neg h1, if_neg h2]) (by rw [swp_at hi (by omega), if_pos rfl]) (by rw [swp_at hi hi, if_neg (by omega), if_pos rfl]) hn hl
  refine luhn_b (swp s i) (by omega) (Lib.hid ?_) w
  rw [Bool.or_eq_true, Bool.and_eq_true, Bool.and_eq_true, beq_iff_eq, beq_iff_eq, beq_iff_eq, beq_iff_eq, ← h]
  exact ⟨fun h => ⟨by omega, hdt, h⟩, fun h => h.2.2⟩
end Go.Proofs.YtddnfjaogekmjaaDoor
