/-
  MATHEMATICS of business days: counts, the day with a number, enough of them.
-/
import Derived.Test.YtaagifggeafgnaaDoorC12
namespace Go.Proofs.YtaagifggeafgnaaDoor
set_option linter.unusedVariables false
/-- How many of k numbers from a on have a property. -/
def ct (P : Nat → Bool) (a : Nat) : Nat → Nat
  | 0 => 0
  | k + 1 => ct P a k + (if P (a + k) then 1 else 0)
theorem ct_le (P : Nat → Bool) (a : Nat) : ∀ k, ct P a k ≤ k
  | 0 => Nat.le_refl _
  | k + 1 => by have := ct_le P a k; rw [ct]; split <;> omega
theorem ct_add (P : Nat → Bool) (a i : Nat) : ∀ j, ct P a (i + j) = ct P a i + ct P (a + i) j
  | 0 => rfl
  | j + 1 => by rw [show i + (j + 1) = (i + j) + 1 from rfl, ct, ct_add P a i j, ct, Nat.add_assoc a i j]; omega
theorem ct_mono (P : Nat → Bool) (a : Nat) {i j : Nat} (h : i ≤ j) : ct P a i ≤ ct P a j := by
  obtain ⟨k, rfl⟩ := Nat.le.dest h
  rw [ct_add]; omega
theorem cntB_ct (S : Int → Bool) (a : Nat) : ∀ k, cntB S a k = ct (fun j => biz S (j : Int)) a k
  | 0 => rfl
  | k + 1 => by rw [cntB, ct, cntB_ct S a k]
theorem ct_imp {P Q R : Nat → Bool} (a : Nat) : ∀ k, (∀ j, a ≤ j → j < a + k → P j = true → Q j = true ∨ R j = true) → ct P a k ≤ ct Q a k + ct R a k
  | 0, _ => by simp [ct]
  | k + 1, h => by
    have h1 := ct_imp a k fun j hj1 hj2 => h j hj1 (by omega)
    have h2 := h (a + k) (by omega) (by omega)
    rw [ct, ct, ct]
    cases hp : P (a + k)
    · simp; omega
    · rcases h2 hp with hq | hr
      · simp [hq]; omega
      · simp [hr]; omega
theorem ct_none {P : Nat → Bool} (a : Nat) : ∀ k, (∀ j, a ≤ j → j < a + k → P j = false) → ct P a k = 0
  | 0, _ => rfl
  | k + 1, h => by rw [ct, ct_none a k fun j hj1 hj2 => h j hj1 (by omega), h (a + k) (by omega) (by omega)]; rfl
theorem ct_one (z : Int) (a : Nat) : ∀ k, ct (fun j => (j : Int) == z) a k ≤ 1
  | 0 => by simp [ct]
  | k + 1 => by
    by_cases h : ((a + k : Nat) : Int) = z
    · have h0 := ct_none (P := fun j => (j : Int) == z) a k fun j hj1 hj2 => by simp; omega
      rw [ct, h0]
      split <;> omega
    · have := ct_one z a k
      rw [ct]
      simp only [beq_iff_eq, h, if_false]
      omega
theorem ct_list (a k : Nat) : ∀ zs : List Int, ct (fun j => zs.contains (j : Int)) a k ≤ zs.length
  | [] => by rw [ct_none a k fun j _ _ => by simp]; exact Nat.zero_le _
  | z :: zs => by
    have h1 := ct_list a k zs
    have h2 := ct_one z a k
    have h3 := ct_imp (P := fun j => (z :: zs).contains (j : Int)) (Q := fun j => zs.contains (j : Int)) (R := fun j => (j : Int) == z) a k fun j _ _ hj => by
      simp only [List.contains_cons, Bool.or_eq_true] at hj
      exact hj.symm
    simp only [List.length_cons]
    omega
def wk (j : Nat) : Bool := decide (((j : Int) + 3) % 7 < 5)
theorem seven : ∀ r, r < 7 → (if (r + 0) % 7 < 5 then 1 else 0) + (if (r + 1) % 7 < 5 then 1 else 0) + (if (r + 2) % 7 < 5 then 1 else 0) + (if (r + 3) % 7 < 5 then 1 else 0) + (if (r + 4) % 7 < 5 then 1 else 0) + (if (r + 5) % 7 < 5 then 1 else 0) + (if (r + 6) % 7 < 5 then 1 else 0) = 5 := by decide
theorem wk_if (a i : Nat) : (if wk (a + i) = true then 1 else 0) = (if ((a + 3) % 7 + i) % 7 < 5 then 1 else 0 : Nat) := by
  have : wk (a + i) = true ↔ ((a + 3) % 7 + i) % 7 < 5 := by
    unfold wk
    rw [decide_eq_true_iff]
    omega
  by_cases h : ((a + 3) % 7 + i) % 7 < 5
  · rw [if_pos h, if_pos (this.2 h)]
  · rw [if_neg h, if_neg (fun hc => h (this.1 hc))]
theorem ct_week (a : Nat) : ct wk a 7 = 5 := by
  simp only [ct, wk_if]
  have := seven ((a + 3) % 7) (Nat.mod_lt _ (by omega))
  omega
theorem ct_weeks (a : Nat) : ∀ q, ct wk a (7 * q) = 5 * q
  | 0 => rfl
  | q + 1 => by rw [show 7 * (q + 1) = 7 * q + 7 by omega, ct_add, ct_weeks a q, ct_week]; omega
/-- Business days abound. -/
theorem many (zs : List Int) (hl : zs.length ≤ 400) (a : Nat) (ha : a + 1687 ≤ 100000) : 258 ≤ ct (fun j => biz (fun z => zs.contains z) (j : Int)) a 1687 := by
  have h1 := ct_weeks a 241
  have h2 := ct_list a 1687 zs
  have h3 := ct_imp (P := wk) (Q := fun j => biz (fun z => zs.contains z) (j : Int)) (R := fun j => zs.contains (j : Int)) a 1687 fun j hj1 hj2 hw => by
    cases hc : zs.contains (j : Int)
    · left
      unfold wk at hw
      show (isDt (j : Int) && (decide (((j : Int) + 3) % 7 < 5) && !zs.contains (j : Int))) = true
      rw [isDt_yes (by omega) (by omega), hw, hc]
      rfl
    · exact .inr rfl
  simp only [Nat.reduceMul] at h1
  omega
/-- The number with a count. -/
theorem ct_find (P : Nat → Bool) (a : Nat) (t : Nat) : ∀ K, t < ct P a K → ∃ k, k < K ∧ ct P a k = t ∧ P (a + k) = true
  | 0, h => by simp [ct] at h
  | K + 1, h => by
    rw [ct] at h
    by_cases h1 : t < ct P a K
    · obtain ⟨k, a1, a2⟩ := ct_find P a t K h1
      exact ⟨k, by omega, a2⟩
    · cases hp : P (a + K)
      · rw [hp] at h; simp at h; omega
      · rw [hp] at h
        simp at h
        exact ⟨K, by omega, by omega, hp⟩
/-- The business days behind a date, by their numbers; the date itself has the number 0. -/
theorem days_ex (P : Nat → Bool) (date : Nat) (T K : Nat) (hT : T < ct P (date + 1) K) : ∃ x : Nat → Nat, x 0 = date ∧ ∀ t, t ≤ T → (date + 1 ≤ x (t + 1) ∧ x (t + 1) < date + 1 + K ∧ ct P (date + 1) (x (t + 1) - (date + 1)) = t ∧ P (x (t + 1)) = true) := by
  have h : ∀ t, ∃ k, t ≤ T → (k < K ∧ ct P (date + 1) k = t ∧ P (date + 1 + k) = true) := fun t => by
    by_cases ht : t ≤ T
    · obtain ⟨k, r⟩ := ct_find P (date + 1) t K (by omega)
      exact ⟨k, fun _ => r⟩
    · exact ⟨0, fun h => absurd h ht⟩
  refine ⟨fun t => match t with | 0 => date | t + 1 => date + 1 + Classical.choose (h t), rfl, fun t ht => ?_⟩
  obtain ⟨h1, h2, h3⟩ := Classical.choose_spec (h t) ht
  refine ⟨by simp, by simpa using h1, ?_, h3⟩
  show ct P (date + 1) (date + 1 + Classical.choose (h t) - (date + 1)) = t
  rw [Nat.add_sub_cancel_left]
  exact h2
/-- They follow each other. -/
theorem days_next {S : Int → Bool} {date T K : Nat} {x : Nat → Nat} (h0 : x 0 = date) (h : ∀ t, t ≤ T → (date + 1 ≤ x (t + 1) ∧ x (t + 1) < date + 1 + K ∧ ct (fun j => biz S (j : Int)) (date + 1) (x (t + 1) - (date + 1)) = t ∧ biz S (x (t + 1) : Int) = true)) (t : Nat) (ht : t ≤ T) : IsNext S (x t + 1) (x (t + 1)) := by
  obtain ⟨a1, a2, a3, a4⟩ := h t ht
  -- behind the last one counted
  have key : ∀ j, date + 1 ≤ j → (match t with | 0 => True | u + 1 => x (u + 1) < j) → j < x (t + 1) → biz S (j : Int) = false := by
    intro j j1 j2 j3
    cases hb : biz S (j : Int)
    · rfl
    · exfalso
      have e1 : ct (fun j => biz S (j : Int)) (date + 1) (j + 1 - (date + 1)) = ct (fun j => biz S (j : Int)) (date + 1) (j - (date + 1)) + 1 := by
        rw [show j + 1 - (date + 1) = (j - (date + 1)) + 1 by omega, ct]
        rw [show date + 1 + (j - (date + 1)) = j by omega]
        simp [hb]
      have e2 := ct_mono (fun j => biz S (j : Int)) (date + 1) (show j + 1 - (date + 1) ≤ x (t + 1) - (date + 1) by omega)
      cases t with
      | zero => omega
      | succ u =>
        obtain ⟨b1, b2, b3, b4⟩ := h u (by omega)
        have j2' : x (u + 1) < j := j2
        have e3 : ct (fun j => biz S (j : Int)) (date + 1) (x (u + 1) + 1 - (date + 1)) = ct (fun j => biz S (j : Int)) (date + 1) (x (u + 1) - (date + 1)) + 1 := by
          rw [show x (u + 1) + 1 - (date + 1) = (x (u + 1) - (date + 1)) + 1 by omega, ct]
          rw [show date + 1 + (x (u + 1) - (date + 1)) = x (u + 1) by omega]
          simp [b4]
        have e4 := ct_mono (fun j => biz S (j : Int)) (date + 1) (show x (u + 1) + 1 - (date + 1) ≤ j - (date + 1) by omega)
        omega
  cases t with
  | zero =>
    rw [h0]
    exact ⟨a1, a4, fun j j1 j2 => key j j1 trivial j2⟩
  | succ u =>
    obtain ⟨b1, b2, b3, b4⟩ := h u (by omega)
    refine ⟨?_, a4, fun j j1 j2 => key j (by omega) (by show x (u + 1) < j; omega) j2⟩
    rcases Nat.lt_or_ge (x (u + 1)) (x (u + 1 + 1)) with hl | hl
    · exact hl
    · exfalso
      have := ct_mono (fun j => biz S (j : Int)) (date + 1) (show x (u + 1 + 1) - (date + 1) ≤ x (u + 1) - (date + 1) by omega)
      omega
end Go.Proofs.YtaagifggeafgnaaDoor
