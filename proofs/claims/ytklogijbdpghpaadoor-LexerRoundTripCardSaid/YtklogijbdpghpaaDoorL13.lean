/-
  CONTRACTS of the lexer: what the laws' tables give.
-/
import Derived.Test.YtklogijbdpghpaaDoorL12
namespace Go.Proofs.YtklogijbdpghpaaDoor
open Go.RowKit
/-- The table of powers. -/
def Pow (w : World) : Prop := Lib.TabIs Tryd.prog w "internal/strconv.uint64pow10" .u64 Lib.pow10Tab
end Go.Proofs.YtklogijbdpghpaaDoor
