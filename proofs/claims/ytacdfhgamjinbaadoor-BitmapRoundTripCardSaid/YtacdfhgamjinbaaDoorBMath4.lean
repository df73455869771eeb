/-
  MATHEMATICS of bitmaps: the numbers of unions and differences add up.
-/
import Derived.Test.YtacdfhgamjinbaaDoorBMath3
namespace Go.Proofs.YtacdfhgamjinbaaDoor
set_option linter.unusedVariables false
theorem countP_split {α : Type} (p q : α → Bool) : ∀ l : List α, l.countP (fun x => p x || q x) = l.countP p + l.countP (fun x => q x && !p x)
  | [] => rfl
  | x :: l => by
    rw [List.countP_cons, List.countP_cons, List.countP_cons, countP_split p q l]
    cases p x <;> cases q x <;> simp <;> omega
theorem fl_count (p : Nat → Bool) (k : Nat) : (fl p k).length = (List.range k).countP fun i => p (i + 2) := by
  rw [fl, List.length_map, ← List.countP_eq_length_filter]
theorem has_union (a b c d n : Nat) (h2 : 2 ≤ n) (h : n ≤ 128) : hasN (clrN (a ||| c)) (b ||| d) n = (hasN a b n || hasN c d n) := by
  by_cases h4 : n ≤ 64
  · rw [hasN_lo _ _ _ h4, hasN_lo _ _ _ h4, hasN_lo _ _ _ h4, clrN_bit, Nat.testBit_or]
    simp [show 64 - n ≤ 62 by omega]
  · rw [hasN_hi _ _ _ h4, hasN_hi _ _ _ h4, hasN_hi _ _ _ h4, Nat.testBit_or]
theorem has_minus (a b c d n : Nat) (hc : c < 18446744073709551616) (hd : d < 18446744073709551616) (h2 : 2 ≤ n) (h : n ≤ 128) : hasN (clrN (minN a c)) (minN b d) n = (hasN a b n && !hasN c d n) := by
  by_cases h4 : n ≤ 64
  · rw [hasN_lo _ _ _ h4, hasN_lo _ _ _ h4, hasN_lo _ _ _ h4, clrN_bit, minN_bit _ _ _ hc]
    simp [show 64 - n ≤ 62 by omega, show 64 - n ≤ 63 by omega]
  · rw [hasN_hi _ _ _ h4, hasN_hi _ _ _ h4, hasN_hi _ _ _ h4, minN_bit _ _ _ hd]
    simp [show 128 - n ≤ 63 by omega]
theorem cnt_add (a b c d : Nat) (ha : a < 18446744073709551616) (hb : b < 18446744073709551616) :
    (fl (hasN (clrN (a ||| c)) (b ||| d)) 127).length = (fl (hasN a b) 127).length + (fl (hasN (clrN (minN c a)) (minN d b)) 127).length := by
  rw [fl_count, fl_count, fl_count]
  have h1 : (List.range 127).countP (fun i => hasN (clrN (a ||| c)) (b ||| d) (i + 2)) = (List.range 127).countP (fun i => hasN a b (i + 2) || hasN c d (i + 2)) := List.countP_congr fun i hi => by
    have := List.mem_range.1 hi
    rw [has_union _ _ _ _ _ (by omega) (by omega)]
  have h2 : (List.range 127).countP (fun i => hasN (clrN (minN c a)) (minN d b) (i + 2)) = (List.range 127).countP (fun i => hasN c d (i + 2) && !hasN a b (i + 2)) := List.countP_congr fun i hi => by
    have := List.mem_range.1 hi
    rw [has_minus _ _ _ _ _ ha hb (by omega) (by omega)]
  rw [h1, h2]
  exact countP_split _ _ _
theorem cnt_none (a b : Nat) (ha : a < 18446744073709551616) (hb : b < 18446744073709551616) : (fl (hasN (clrN (minN a a)) (minN b b)) 127).length = 0 := by
  rw [fl_count, List.countP_eq_zero]
  intro i hi
  have := List.mem_range.1 hi
  rw [has_minus _ _ _ _ _ ha hb (by omega) (by omega)]
  cases hasN a b (i + 2) <;> simp
theorem fl_clr (a b : Nat) : fl (hasN (clrN a) b) 127 = fl (hasN a b) 127 := by
  refine fl_congr (fun n h2 h => ?_) (Nat.le_refl _)
  by_cases h4 : n ≤ 64
  · rw [hasN_lo _ _ _ h4, hasN_lo _ _ _ h4, clrN_bit]
    simp [show 64 - n ≤ 62 by omega]
  · rw [hasN_hi _ _ _ h4, hasN_hi _ _ _ h4]
end Go.Proofs.YtacdfhgamjinbaaDoor
