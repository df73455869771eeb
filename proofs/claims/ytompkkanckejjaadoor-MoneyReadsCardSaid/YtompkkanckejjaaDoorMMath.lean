/-
  MATHEMATICS of amounts: currencies.
-/
import Derived.Test.YtompkkanckejjaaDoorPMath
namespace Go.Proofs.YtompkkanckejjaaDoor
set_option linter.unusedVariables false
def capAt (s : ByteArray) (k : Nat) : Prop := 65 ≤ byt s k ∧ byt s k ≤ 90
def curP (s : ByteArray) : Prop := s.size = 3 ∧ ∀ k, k < 3 → capAt s k
instance (s : ByteArray) : Decidable (curP s) := by unfold curP capAt; exact inferInstance
end Go.Proofs.YtompkkanckejjaaDoor
