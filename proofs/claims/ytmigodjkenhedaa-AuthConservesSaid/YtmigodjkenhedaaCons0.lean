/-
  PLAIN MATHEMATICS of a step on an authorization that is open: it fails and gives nothing, or it keeps what holds of authorizations, and the amounts add up. No call is made here.
-/
import Derived.Test.YtmigodjkenhedaaAuth9
namespace Go.Proofs.Ytmigodjkenhedaa
/-- What a step that did not fail gives. -/
structure Kept (ap rv cl ex at_ kd : Int) (r : AuR) : Prop where
  ok : AuOk r.ap r.rv r.cl r.ex r.st r.at_ r.un r.pa
  at_ : r.at_ = at_
  n1 : 0 ≤ r.n1
  n2 : 0 ≤ r.n2
  up : ap ≤ r.ap
  raised : r.ap ≠ ap → kd % 4 = 1
  left : r.ap - r.rv - r.cl - r.ex = (ap - rv - cl - ex) + (r.ap - ap) - r.n1 - r.n2
  rv : rv ≤ r.rv
  cl : r.cl = cl + r.n1
  ex : ex ≤ r.ex
theorem st_of {ap rv cl ex : Int} (h : auState ap rv cl ex = 1) : 0 < ap - rv - cl - ex := by
  unfold auState at h
  by_cases h0 : 0 < ap - rv - cl - ex
  · exact h0
  · rw [if_neg h0] at h
    by_cases h1 : 0 < ex
    · rw [if_pos h1] at h; omega
    · rw [if_neg h1] at h
      by_cases h2 : 0 < cl
      · rw [if_pos h2] at h; omega
      · rw [if_neg h2] at h; omega
theorem of_st {ap rv cl ex : Int} (h : 0 < ap - rv - cl - ex) : auState ap rv cl ex = 1 := by unfold auState; rw [if_pos h]
theorem step_kept {id cur : ByteArray} {ap rv cl ex at_ un pa kd am t : Int} {fin : Bool} {r : AuR} (k : AuOk ap rv cl ex 1 at_ un pa) (hr : r = stepR 0 id cur ap rv cl ex 1 at_ un pa kd am t fin) :
    (r.err ≠ 0 ∧ r = .bad r.err) ∨ (r.err = 0 ∧ r.id = id ∧ r.cur = cur ∧ Kept ap rv cl ex at_ kd r) := by
  obtain ⟨k1, k2, k3, k4, k5, k6, k7, k8, k9⟩ := k
  have hL := st_of k8.symm
  have hE := k9 rfl
  unfold stepR at hr
  by_cases g1 : kd % 4 = 1
  · rw [if_pos g1] at hr
    unfold raiseR at hr
    rw [if_neg (by omega)] at hr
    by_cases a1 : am < 1 ∨ 999999999999 - ap < am
    · rw [if_pos a1] at hr; subst hr; exact .inl ⟨by simp [AuR.bad], rfl⟩
    rw [if_neg a1] at hr
    by_cases a2 : t < un ∨ 1099511627776 < t
    · rw [if_pos a2] at hr; subst hr; exact .inl ⟨by simp [AuR.bad], rfl⟩
    rw [if_neg a2] at hr
    subst hr
    refine .inr ⟨rfl, rfl, rfl, ⟨⟨?_, ?_, ?_, ?_, ?_, ?_, ?_, (of_st (by dsimp only; omega)).symm, ?_⟩, rfl, ?_, ?_, ?_, ?_, ?_, ?_, ?_, ?_⟩⟩ <;> first | (intros; dsimp only; omega) | (intros; dsimp only; done) | (intros; dsimp only at *; omega)
  rw [if_neg g1] at hr
  by_cases g2 : kd % 4 = 2
  · rw [if_pos g2] at hr
    unfold reverseR at hr
    rw [if_neg (by omega)] at hr
    by_cases a1 : am < 0 ∨ ap - rv - cl - ex < am
    · rw [if_pos a1] at hr; subst hr; exact .inl ⟨by simp [AuR.bad], rfl⟩
    rw [if_neg a1] at hr
    by_cases a2 : am = 0
    · rw [if_pos a2] at hr
      subst hr
      refine .inr ⟨rfl, rfl, rfl, ⟨⟨?_, ?_, ?_, ?_, ?_, ?_, ?_, rfl, ?_⟩, rfl, ?_, ?_, ?_, ?_, ?_, ?_, ?_, ?_⟩⟩ <;> first | (intros; dsimp only; omega) | (intros; dsimp only; done) | (intros; dsimp only at *; omega)
    · rw [if_neg a2] at hr
      subst hr
      refine .inr ⟨rfl, rfl, rfl, ⟨⟨?_, ?_, ?_, ?_, ?_, ?_, ?_, rfl, ?_⟩, rfl, ?_, ?_, ?_, ?_, ?_, ?_, ?_, ?_⟩⟩ <;> first | (intros; dsimp only; omega) | (intros; dsimp only; done) | (intros; dsimp only at *; omega)
  rw [if_neg g2] at hr
  by_cases g3 : kd % 4 = 3
  · rw [if_pos g3] at hr
    unfold expireR at hr
    rw [if_neg (by omega)] at hr
    by_cases a1 : t < un
    · rw [if_pos a1] at hr; subst hr; exact .inl ⟨by simp [AuR.bad], rfl⟩
    rw [if_neg a1] at hr
    subst hr
    refine .inr ⟨rfl, rfl, rfl, ⟨⟨?_, ?_, ?_, ?_, ?_, ?_, ?_, rfl, ?_⟩, rfl, ?_, ?_, ?_, ?_, ?_, ?_, ?_, ?_⟩⟩ <;> first | (intro hh; have := st_of hh; dsimp only at *; omega) | (intros; dsimp only; omega) | (intros; dsimp only; done) | (intros; dsimp only at *; omega)
  rw [if_neg g3] at hr
  unfold clearR at hr
  rw [if_neg (by omega)] at hr
  by_cases a1 : am < 1 ∨ 999999999999 < am
  · rw [if_pos a1] at hr; subst hr; exact .inl ⟨by simp [AuR.bad], rfl⟩
  rw [if_neg a1] at hr
  by_cases a2 : 8 ≤ pa
  · rw [if_pos a2] at hr; subst hr; exact .inl ⟨by simp [AuR.bad], rfl⟩
  rw [if_neg a2] at hr
  have hu : 1 ≤ usedN ap rv cl ex am ∧ usedN ap rv cl ex am ≤ ap - rv - cl - ex := by unfold usedN; omega
  generalize usedN ap rv cl ex am = u at hr hu
  cases fin
  · simp only [Bool.false_eq_true, if_false] at hr
    subst hr
    refine .inr ⟨rfl, rfl, rfl, ⟨⟨?_, ?_, ?_, ?_, ?_, ?_, ?_, rfl, ?_⟩, rfl, ?_, ?_, ?_, ?_, ?_, ?_, ?_, ?_⟩⟩ <;> first | (intros; dsimp only; omega) | (intros; dsimp only; done) | (intros; dsimp only at *; omega)
  · simp only [if_true] at hr
    subst hr
    refine .inr ⟨rfl, rfl, rfl, ⟨⟨?_, ?_, ?_, ?_, ?_, ?_, ?_, rfl, ?_⟩, rfl, ?_, ?_, ?_, ?_, ?_, ?_, ?_, ?_⟩⟩ <;> first | (intros; dsimp only; omega) | (intros; dsimp only; done) | (intros; dsimp only at *; omega)
end Go.Proofs.Ytmigodjkenhedaa
