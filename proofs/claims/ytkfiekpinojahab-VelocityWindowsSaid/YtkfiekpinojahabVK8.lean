/-
  MATHEMATICS of VelocityExact: the uses that are remembered are the last ones.
-/
import Derived.Test.YtkfiekpinojahabVK7
namespace Go.Proofs.Ytkfiekpinojahab
open Go.RowKit
set_option linter.unusedVariables false
def evenB : ByteArray := ⟨#[101, 118, 101, 110]⟩
def oddB : ByteArray := ⟨#[111, 100, 100]⟩
def nmS (i : Nat) : ByteArray := if i % 2 = 0 then evenB else oddB
def acc (G : List Int) (k : Nat) : Int := (G.take k).sum
theorem acc_succ {G : List Int} {k : Nat} {x : Int} (h : G[k]? = some x) : acc G (k + 1) = acc G k + x := by
  unfold acc
  rw [List.take_add_one, h]
  simp
theorem acc_mono {G : List Int} (hG : ∀ x ∈ G, 0 ≤ x ∧ x < 256) {a b : Nat} (h : a ≤ b) : acc G a ≤ acc G b := by
  induction b with
  | zero => obtain rfl : a = 0 := by omega
            exact Int.le_refl _
  | succ b ih =>
    rcases Nat.lt_or_ge b a with h1 | h1
    · obtain rfl : a = b + 1 := by omega
      exact Int.le_refl _
    · cases hx : G[b]? with
      | some x =>
        rw [acc_succ hx]
        have := (hG x (List.mem_of_getElem? hx)).1
        have := ih h1
        omega
      | none =>
        have hl : G.length ≤ b := by
          rcases Nat.lt_or_ge b G.length with h2 | h2
          · rw [List.getElem?_eq_getElem h2] at hx; cases hx
          · exact h2
        have : acc G (b + 1) = acc G b := by unfold acc; rw [List.take_of_length_le (by omega), List.take_of_length_le hl]
        rw [this]
        exact ih h1
theorem acc_bound {G : List Int} (hG : ∀ x ∈ G, 0 ≤ x ∧ x < 256) (k : Nat) : 0 ≤ acc G k ∧ acc G k ≤ 255 * k := by
  induction k with
  | zero => exact ⟨Int.le_refl _, Int.le_refl _⟩
  | succ k ih =>
    cases hx : G[k]? with
    | some x =>
      rw [acc_succ hx]
      have := hG x (List.mem_of_getElem? hx)
      omega
    | none =>
      have hl : G.length ≤ k := by
        rcases Nat.lt_or_ge k G.length with h2 | h2
        · rw [List.getElem?_eq_getElem h2] at hx; cases hx
        · exact h2
      have : acc G (k + 1) = acc G k := by unfold acc; rw [List.take_of_length_le (by omega), List.take_of_length_le hl]
      rw [this]
      omega
def useE (f : Nat → ByteArray) (m : Nat → Int) (G : List Int) (j : Nat) : UR := ⟨f j, acc G (j + 1), m j⟩
def fulE (f : Nat → ByteArray) (m : Nat → Int) (G : List Int) (k : Nat) : List UR := (List.range k).map (useE f m G)
theorem fulE_len (f : Nat → ByteArray) (m : Nat → Int) (G : List Int) (k : Nat) : (fulE f m G k).length = k := by simp [fulE]
theorem fulE_succ (f : Nat → ByteArray) (m : Nat → Int) (G : List Int) (k : Nat) : fulE f m G (k + 1) = fulE f m G k ++ [useE f m G k] := by simp [fulE, List.range_succ]
theorem fulE_get {f : Nat → ByteArray} {m : Nat → Int} {G : List Int} {k j : Nat} (h : j < k) : (fulE f m G k)[j]? = some (useE f m G j) := by simp [fulE, h]
/-- The windows after k uses. -/
structure VI (f : Nat → ByteArray) (m : Nat → Int) (G : List Int) (h k : Nat) (s : VS) : Prop where
  hor : s.hor = h
  last : s.last = acc G k
  us : ∃ d, d ≤ k ∧ s.us = (fulE f m G k).drop d ∧ ∀ j, j < d → acc G (j + 1) ≤ acc G k - h
theorem VI.len {f : Nat → ByteArray} {m : Nat → Int} {G : List Int} {h k : Nat} {s : VS} (v : VI f m G h k s) : s.us.length ≤ k := by
  obtain ⟨d, _, e, _⟩ := v.us
  rw [e, List.length_drop, fulE_len]
  omega
theorem take_old {us : List UR} {b : Int} {j : Nat} {x : UR} (hj : j < oldS us b) (hx : us[j]? = some x) : x.a ≤ b := by
  rcases Int.lt_or_le b x.a with h | h
  · have := (oldS_step hx (Nat.le_of_lt hj)).2 (by omega)
    omega
  · exact h
theorem VI.step {f : Nat → ByteArray} {m : Nat → Int} {G : List Int} {h k : Nat} {s : VS} (hG : ∀ x ∈ G, 0 ≤ x ∧ x < 256) (v : VI f m G h k s) : VI f m G h (k + 1) (addS s (f k) (acc G (k + 1)) (m k)) := by
  obtain ⟨d, hd, e, ho⟩ := v.us
  refine ⟨v.hor, rfl, ?_⟩
  unfold addS
  rw [v.hor]
  have hle := oldS_le s.us (acc G (k + 1) - h)
  have hold := fun j x => take_old (us := s.us) (b := acc G (k + 1) - h) (j := j) (x := x)
  generalize oldS s.us (acc G (k + 1) - h) = o at hle hold ⊢
  have hlen : s.us.length = k - d := by rw [e, List.length_drop, fulE_len]
  refine ⟨d + o, by omega, ?_, ?_⟩
  · simp only
    rw [fulE_succ, List.drop_append_of_le_length (by rw [fulE_len]; omega), e, List.drop_drop]
    rfl
  · intro j hj
    rcases Nat.lt_or_ge j d with h1 | h1
    · have h2 := ho j h1
      have h3 := acc_mono hG (show k ≤ k + 1 by omega)
      omega
    · have h2 : s.us[j - d]? = some (useE f m G j) := by
        rw [e, List.getElem?_drop, show d + (j - d) = j by omega]
        exact fulE_get (by omega)
      exact hold (j - d) _ (by omega) h2
/-- What is counted is counted over all uses. -/
theorem VI.all {f : Nat → ByteArray} {m : Nat → Int} {G : List Int} {h k : Nat} {s : VS} (v : VI f m G h k s) {key : ByteArray} {at_ n : Int} (h1 : 1 ≤ n) (h2 : n ≤ h) (h3 : acc G k ≤ at_) : wL s key at_ n = wS (fulE f m G k) key at_ n := by
  obtain ⟨d, hd, e, ho⟩ := v.us
  unfold wL
  rw [v.hor, if_neg (by omega), e]
  have hs : (fulE f m G k) = (fulE f m G k).take d ++ (fulE f m G k).drop d := (List.take_append_drop _ _).symm
  conv => rhs; rw [hs]
  unfold wS
  rw [List.filter_append]
  have h0 : ((fulE f m G k).take d).filter (inW key at_ n) = [] := by
    rw [List.filter_eq_nil_iff]
    intro x hx
    obtain ⟨j, hj, rfl⟩ := List.getElem_of_mem hx
    have hjd : j < d := by simp at hj; omega
    have h4 := ho j hjd
    have h5 : ((fulE f m G k).take d)[j]'hj = useE f m G j := by
      have h6 := fulE_get (f := f) (m := m) (G := G) (k := k) (j := j) (by omega)
      rw [List.getElem_take]
      rw [List.getElem?_eq_getElem (by rw [fulE_len]; omega)] at h6
      exact Option.some.inj h6
    rw [h5]
    unfold inW useE
    simp only [decide_eq_true_eq]
    rintro ⟨_, h6, _⟩
    omega
  rw [h0]
  rfl
end Go.Proofs.Ytkfiekpinojahab
