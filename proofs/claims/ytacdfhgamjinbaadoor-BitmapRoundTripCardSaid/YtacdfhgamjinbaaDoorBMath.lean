/-
  MATHEMATICS of bitmaps: lists of numbers and the words that they make.
-/
import Derived.Test.YtacdfhgamjinbaaDoorB7
import Derived.Test.YtacdfhgamjinbaaDoorB6
namespace Go.Proofs.YtacdfhgamjinbaaDoor
set_option linter.unusedVariables false
/-- The numbers from 2 on, at most k of them, for which p holds. -/
def fl (p : Nat → Bool) (k : Nat) : List Int := ((List.range k).filter fun i => p (i + 2)).map fun i => ((i + 2 : Nat) : Int)
theorem fl_zero (p : Nat → Bool) : fl p 0 = [] := rfl
theorem fl_yes {p : Nat → Bool} {k : Nat} (h : p (k + 2) = true) : fl p (k + 1) = fl p k ++ [((k + 2 : Nat) : Int)] := by
  simp [fl, List.range_succ, List.filter_append, h]
theorem fl_no {p : Nat → Bool} {k : Nat} (h : p (k + 2) = false) : fl p (k + 1) = fl p k := by
  simp [fl, List.range_succ, List.filter_append, h]
theorem fl_len (p : Nat → Bool) (k : Nat) : (fl p k).length ≤ k := by
  simp only [fl, List.length_map]
  exact Nat.le_trans (List.length_filter_le _ _) (by simp)
theorem fl_congr {p q : Nat → Bool} {k : Nat} (h : ∀ n, 2 ≤ n → n ≤ 128 → p n = q n) (hk : k ≤ 127) : fl p k = fl q k := by
  unfold fl
  congr 1
  exact List.filter_congr fun i hi => h _ (by omega) (by have := List.mem_range.1 hi; omega)
/-- The words that the numbers of a list make. -/
def orH (l : List Int) : Nat := l.foldr (fun z x => hiN z.toNat ||| x) 0
def orL (l : List Int) : Nat := l.foldr (fun z x => loN z.toNat ||| x) 0
theorem ofL_append : ∀ (l m : List Int) (a b : Nat), ofL (l ++ m) a b = (ofL l a b).bind fun p => ofL m p.1 p.2
  | [], m, a, b => rfl
  | z :: l, m, a, b => by
    simp only [List.cons_append, ofL]
    split
    · rfl
    · exact ofL_append l m _ _
theorem ofL_good_list : ∀ (l : List Int) (a b : Nat), (∀ z ∈ l, 2 ≤ z ∧ z ≤ 128) → ofL l a b = some (a ||| orH l, b ||| orL l)
  | [], a, b, _ => by simp [ofL, orH, orL]
  | z :: l, a, b, h => by
    have hz := h z (by simp)
    rw [ofL, if_neg (by omega), ofL_good_list l _ _ fun y hy => h y (by simp [hy])]
    simp [orH, orL, Nat.or_assoc]
theorem hiN_bit (n i : Nat) : (hiN n).testBit i = (decide (n ≤ 64) && decide (64 - n = i)) := by
  unfold hiN
  split <;> rename_i h <;> simp [h, Nat.testBit_two_pow]
theorem loN_bit (n i : Nat) : (loN n).testBit i = (decide (¬ n ≤ 64) && decide (128 - n = i)) := by
  unfold loN
  split <;> rename_i h <;> simp [h, Nat.testBit_two_pow]
theorem orH_bit (l : List Int) (i : Nat) : (orH l).testBit i = l.any fun z => (hiN z.toNat).testBit i := by
  induction l with
  | nil => simp [orH]
  | cons z l ih => simp only [orH, List.foldr_cons, Nat.testBit_or, List.any_cons] at ih ⊢; rw [ih]
theorem orL_bit (l : List Int) (i : Nat) : (orL l).testBit i = l.any fun z => (loN z.toNat).testBit i := by
  induction l with
  | nil => simp [orL]
  | cons z l ih => simp only [orL, List.foldr_cons, Nat.testBit_or, List.any_cons] at ih ⊢; rw [ih]
theorem fl_mem {p : Nat → Bool} {k : Nat} {z : Int} : z ∈ fl p k ↔ ∃ n : Nat, z = n ∧ 2 ≤ n ∧ n < k + 2 ∧ p n = true := by
  simp only [fl, List.mem_map, List.mem_filter, List.mem_range]
  constructor
  · rintro ⟨i, ⟨hi, hp⟩, rfl⟩
    exact ⟨i + 2, rfl, by omega, by omega, hp⟩
  · rintro ⟨n, rfl, h2, hk, hp⟩
    exact ⟨n - 2, ⟨by omega, by rw [show n - 2 + 2 = n by omega]; exact hp⟩, by rw [show n - 2 + 2 = n by omega]⟩
theorem fl_good (p : Nat → Bool) : ∀ z ∈ fl p 127, 2 ≤ z ∧ z ≤ 128 := by
  intro z hz
  obtain ⟨n, rfl, h2, hk, _⟩ := fl_mem.1 hz
  omega
theorem orH_fl (p : Nat → Bool) (i : Nat) : (orH (fl p 127)).testBit i = (decide (i ≤ 62) && p (64 - i)) := by
  rw [orH_bit, Bool.eq_iff_iff, List.any_eq_true]
  simp only [Bool.and_eq_true, decide_eq_true_eq]
  constructor
  · rintro ⟨z, hz, hb⟩
    obtain ⟨n, rfl, h2, hk, hp⟩ := fl_mem.1 hz
    rw [hiN_bit] at hb
    simp only [Int.toNat_natCast, Bool.and_eq_true, decide_eq_true_eq] at hb
    obtain ⟨h64, rfl⟩ := hb
    exact ⟨by omega, by rw [show 64 - (64 - n) = n by omega]; exact hp⟩
  · rintro ⟨hi, hp⟩
    refine ⟨((64 - i : Nat) : Int), fl_mem.2 ⟨64 - i, rfl, by omega, by omega, hp⟩, ?_⟩
    rw [hiN_bit]
    simp only [Int.toNat_natCast, Bool.and_eq_true, decide_eq_true_eq]
    omega
theorem orL_fl (p : Nat → Bool) (i : Nat) : (orL (fl p 127)).testBit i = (decide (i ≤ 63) && p (128 - i)) := by
  rw [orL_bit, Bool.eq_iff_iff, List.any_eq_true]
  simp only [Bool.and_eq_true, decide_eq_true_eq]
  constructor
  · rintro ⟨z, hz, hb⟩
    obtain ⟨n, rfl, h2, hk, hp⟩ := fl_mem.1 hz
    rw [loN_bit] at hb
    simp only [Int.toNat_natCast, Bool.and_eq_true, decide_eq_true_eq] at hb
    obtain ⟨h64, rfl⟩ := hb
    exact ⟨by omega, by rw [show 128 - (128 - n) = n by omega]; exact hp⟩
  · rintro ⟨hi, hp⟩
    refine ⟨((128 - i : Nat) : Int), fl_mem.2 ⟨128 - i, rfl, by omega, by omega, hp⟩, ?_⟩
    rw [loN_bit]
    simp only [Int.toNat_natCast, Bool.and_eq_true, decide_eq_true_eq]
    omega
theorem and_pow_ne (a k : Nat) : (a &&& 2 ^ k != 0) = a.testBit k := by
  cases h : a.testBit k
  · have : a &&& 2 ^ k = 0 := by
      refine Nat.eq_of_testBit_eq fun i => ?_
      rw [Nat.testBit_and, Nat.testBit_two_pow, Nat.zero_testBit]
      by_cases e : k = i
      · subst e; simp [h]
      · simp [e]
    simp [this]
  · have : (a &&& 2 ^ k).testBit k = true := by simp [Nat.testBit_and, h]
    have h0 : a &&& 2 ^ k ≠ 0 := fun e => by rw [e] at this; simp at this
    simp [h0]
theorem hasN_lo (a b n : Nat) (h : n ≤ 64) : hasN a b n = a.testBit (64 - n) := by
  rw [hasN, if_pos h, hiN, if_pos h, and_pow_ne]
theorem hasN_hi (a b n : Nat) (h : ¬ n ≤ 64) : hasN a b n = b.testBit (128 - n) := by
  rw [hasN, if_neg h, loN, if_neg h, and_pow_ne]
theorem clrN_bit (a i : Nat) : (clrN a).testBit i = (decide (i ≤ 62) && a.testBit i) := by
  rw [clrN, show 9223372036854775808 = 2 ^ 63 from rfl, Nat.testBit_mod_two_pow]
  congr 1
  exact decide_eq_decide.2 (by omega)
theorem bit_lt {a i : Nat} (h : a < 18446744073709551616) (hi : ¬ i ≤ 63) : a.testBit i = false :=
  Nat.testBit_lt_two_pow (Nat.lt_of_lt_of_le h (Nat.pow_le_pow_right (n := 2) (by omega) (show 64 ≤ i by omega)))
theorem minN_bit (a c i : Nat) (hc : c < 18446744073709551616) : (minN a c).testBit i = (a.testBit i && (decide (i ≤ 63) && !c.testBit i)) := by
  rw [minN, Nat.testBit_and, show 18446744073709551615 - c = 2 ^ 64 - (c + 1) by omega, Nat.testBit_two_pow_sub_succ hc]
  congr 2
  exact decide_eq_decide.2 (by omega)
theorem orH_has (a b : Nat) : orH (fl (hasN a b) 127) = clrN a := by
  refine Nat.eq_of_testBit_eq fun i => ?_
  rw [orH_fl, clrN_bit]
  by_cases hi : i ≤ 62
  · rw [hasN_lo _ _ _ (by omega), show 64 - (64 - i) = i by omega]
  · simp [hi]
theorem orL_has (a b : Nat) (hb : b < 18446744073709551616) : orL (fl (hasN a b) 127) = b := by
  refine Nat.eq_of_testBit_eq fun i => ?_
  rw [orL_fl]
  by_cases hi : i ≤ 63
  · rw [hasN_hi _ _ _ (by omega), show 128 - (128 - i) = i by omega]; simp [hi]
  · simp [hi, bit_lt hb hi]
theorem of_list (a b : Nat) (hb : b < 18446744073709551616) (x y : Nat) : ofL (fl (hasN a b) 127) x y = some (x ||| clrN a, y ||| b) := by
  rw [ofL_good_list _ _ _ (fl_good _), orH_has, orL_has _ _ hb]
theorem clr_or (a c : Nat) : clrN a ||| clrN c = clrN (a ||| c) := by
  refine Nat.eq_of_testBit_eq fun i => ?_
  simp only [Nat.testBit_or, clrN_bit]
  cases decide (i ≤ 62) <;> simp
theorem of_union (a b c d : Nat) (hb : b < 18446744073709551616) (hd : d < 18446744073709551616) : ofL (fl (hasN a b) 127 ++ fl (hasN c d) 127) 0 0 = some (clrN (a ||| c), b ||| d) := by
  rw [ofL_append, of_list a b hb, Option.bind_some, of_list c d hd, Nat.zero_or, Nat.zero_or, clr_or]
def minP (a b c d n : Nat) : Bool := hasN a b n && !hasN c d n
theorem of_minus (a b c d : Nat) (hb : b < 18446744073709551616) (hc : c < 18446744073709551616) (hd : d < 18446744073709551616) : ofL (fl (minP a b c d) 127) 0 0 = some (clrN (minN a c), minN b d) := by
  rw [ofL_good_list _ _ _ (fl_good _), Nat.zero_or, Nat.zero_or]
  congr 2
  · refine Nat.eq_of_testBit_eq fun i => ?_
    rw [orH_fl, clrN_bit, minN_bit _ _ _ hc]
    by_cases hi : i ≤ 62
    · rw [minP, hasN_lo _ _ _ (by omega), hasN_lo _ _ _ (by omega), show 64 - (64 - i) = i by omega]; simp [hi, show i ≤ 63 by omega]
    · simp [hi]
  · refine Nat.eq_of_testBit_eq fun i => ?_
    rw [orL_fl, minN_bit _ _ _ hd]
    by_cases hi : i ≤ 63
    · rw [minP, hasN_hi _ _ _ (by omega), hasN_hi _ _ _ (by omega), show 128 - (128 - i) = i by omega]; simp [hi]
    · simp [hi]
end Go.Proofs.YtacdfhgamjinbaaDoor
