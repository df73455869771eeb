/-
  CONTRACTS of velocity: what every state keeps: times that do not fall, none after the last.
-/
import Derived.Test.YtkfiekpinojahabVR5
import Derived.Test.YtkfiekpinojahabVR6
namespace Go.Proofs.Ytkfiekpinojahab.R
open Go.RowKit
set_option linter.unusedVariables false
set_option linter.unusedSimpArgs false
structure Inv (s : VS) : Prop where
  srt : Srt s.us
  le : ∀ y ∈ s.us, y.a ≤ s.last
theorem Inv.new (h : Nat) : Inv (newS h) := ⟨by simp [newS, Srt], by simp [newS]⟩
theorem Inv.forget {s : VS} (h : Inv s) (c : Nat) : Inv { s with us := s.us.drop c } := ⟨h.srt.drop c, fun y hy => h.le y (List.mem_of_mem_drop hy)⟩
theorem Inv.add {s : VS} (h : Inv s) (k : ByteArray) (a m : Int) : Inv (addG s k a m) := by
  unfold addG
  split
  · rename_i h0
    obtain ⟨ok, -⟩ := addE_ok h0
    have hal := ok.al
    refine ⟨?_, ?_⟩
    · exact (h.srt.drop _).add fun y hy => by
        have := h.le y (List.mem_of_mem_drop hy)
        show y.a ≤ a
        omega
    · intro y hy
      show y.a ≤ a
      rcases List.mem_append.1 hy with hy | hy
      · have := h.le y (List.mem_of_mem_drop hy)
        omega
      · rw [List.mem_singleton.1 hy]
        exact Int.le_refl _
  · exact h
theorem Inv.rem {s : VS} (h : Inv s) {key : ByteArray} {a m c : Int} {us' : List UR} (hp : RemP s.us key a m us' c) : Inv { s with us := us' } := by
  rcases hp with ⟨i, x, -, -, -, rfl, -⟩ | ⟨-, rfl, -⟩
  · refine ⟨h.srt.rm i, fun y hy => ?_⟩
    rcases List.mem_append.1 hy with hy | hy
    · exact h.le y (List.mem_of_mem_take hy)
    · exact h.le y (List.mem_of_mem_drop hy)
  · exact h
end Go.Proofs.Ytkfiekpinojahab.R
