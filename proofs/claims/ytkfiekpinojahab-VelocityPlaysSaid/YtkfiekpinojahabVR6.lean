/-
  CONTRACTS of velocity: where times do not fall, program and specification keep the same uses.
-/
import Derived.Test.YtkfiekpinojahabVR4
namespace Go.Proofs.Ytkfiekpinojahab.R
open Go.RowKit
set_option linter.unusedVariables false
set_option linter.unusedSimpArgs false
/-- The times do not fall, and none is after the last. -/
def Srt (us : List UR) : Prop := List.Pairwise (fun x y : UR => x.a ≤ y.a) us
theorem kepS_all {us : List UR} {b : Int} (h : ∀ x ∈ us, b < x.a) : kepS us b = us := by
  unfold kepS
  exact List.filter_eq_self.2 fun x hx => decide_eq_true (h x hx)
theorem Srt.drop {us : List UR} (h : Srt us) (k : Nat) : Srt (us.drop k) := List.Pairwise.sublist (List.drop_sublist k us) h
theorem Srt.keep {us : List UR} (h : Srt us) (b : Int) : Srt (kepS us b) := List.Pairwise.sublist List.filter_sublist h
theorem Srt.rm {us : List UR} (h : Srt us) (f : Nat) : Srt (rmU us f (f + 1)) := by
  have e : rmU us f (f + 1) = us.eraseIdx f := by rw [List.eraseIdx_eq_take_drop_succ]; rfl
  rw [e]
  exact List.Pairwise.sublist (List.eraseIdx_sublist us f) h
theorem Srt.add {us : List UR} (h : Srt us) {x : UR} (hx : ∀ y ∈ us, y.a ≤ x.a) : Srt (us ++ [x]) := by
  unfold Srt
  rw [List.pairwise_append]
  exact ⟨h, by simp, fun y hy z hz => by rw [List.mem_singleton.1 hz]; exact hx y hy⟩
theorem maxS_last {us : List UR} {key : ByteArray} (h : Srt us) (h0 : ∀ x ∈ us, 0 ≤ x.a) : maxS us key = lastS us key := by
  suffices h : ∀ (l : List UR) (c : Int × Bool), Srt l → (∀ x ∈ l, c.1 ≤ x.a) → List.foldl (fun b x => if x.k = key then (max b.1 x.a, true) else b) c l = List.foldl (fun b x => if x.k = key then (x.a, true) else b) c l from h us (0, false) ‹_› h0
  intro l
  induction l with
  | nil => intro c _ _; rfl
  | cons x l ih =>
    intro c hs hc
    have hs' := List.pairwise_cons.1 hs
    simp only [List.foldl_cons]
    by_cases hk : x.k = key
    · have e : max c.1 x.a = x.a := by have := hc x (List.mem_cons_self ..); omega
      rw [if_pos hk, if_pos hk, e]
      exact ih _ hs'.2 fun y hy => hs'.1 y hy
    · rw [if_neg hk, if_neg hk]
      exact ih _ hs'.2 fun y hy => hc y (List.mem_cons_of_mem _ hy)
theorem kepS_drop {us : List UR} (b : Int) (h : Srt us) : kepS us b = us.drop (oldS us b) := by
  induction us with
  | nil => rfl
  | cons x l ih =>
    have hs := List.pairwise_cons.1 h
    by_cases hx : x.a ≤ b
    · have e1 : kepS (x :: l) b = kepS l b := by
        unfold kepS
        rw [List.filter_cons, if_neg (by simp; omega)]
      have e2 : oldS (x :: l) b = oldS l b + 1 := by
        unfold oldS
        rw [List.takeWhile_cons, if_pos (by simpa using hx)]
        rfl
      rw [e1, e2, List.drop_succ_cons]
      exact ih hs.2
    · have e2 : oldS (x :: l) b = 0 := by
        unfold oldS
        rw [List.takeWhile_cons, if_neg (by simpa using hx)]
        rfl
      rw [e2, List.drop_zero]
      refine kepS_all fun y hy => ?_
      rcases List.mem_cons.1 hy with rfl | hy
      · omega
      · have := hs.1 y hy
        omega
theorem addF_eq {s : VS} (h : Srt s.us) (k : ByteArray) (a m : Int) : addF s k a m = addE s k a m := by
  unfold addF addE
  rw [kepS_drop _ h, List.length_drop]
theorem addH_eq {s : VS} (h : Srt s.us) (k : ByteArray) (a m : Int) : addH s k a m = addG s k a m := by
  unfold addH addG addRS addS
  rw [addF_eq h, kepS_drop _ h]
theorem forM_eq {s : VS} (h : Srt s.us) (a : Int) : forM s a = s.us.drop (forN s a) := by
  unfold forM forN
  split
  · exact kepS_drop _ h
  · rfl
theorem forN_int {s : VS} (h : Srt s.us) (a : Int) : (s.us.length : Int) - ((forM s a).length : Int) = (forN s a : Int) := by
  have h1 : forN s a ≤ s.us.length := by
    unfold forN
    split
    · exact oldS_le _ _
    · exact Nat.zero_le _
  rw [forM_eq h, List.length_drop]
  omega
end Go.Proofs.Ytkfiekpinojahab.R
