/-
  No cell of these rows narrows 'for every input' (looked for: loops, veiled, ifaces, maps, wideKeys, modest, calm, conditions, laid).
  DERIVED. THE GIVEN ROWS OF THIS SEAT. 4 by the template 'for every input the law returns true; each argument reads behind the call as it read before'; 0 by the template 'total and deterministic' (their statements: YtkfiekpinojahabTotals.lean).
  GIVEN WITH THE SEED: the statements are not yours to turn. If you find one false, say at which input.
  Laid BY PROGRAM, IN A SANDBOX (cutbox-rows.mjs): the forced cells as the released guide's own fill.sh prints them over the translation 652b1740ea6935d8… (all of the seat's roots in one cut). By AI agents, Wed Nov 11 2026. No macro, syntax, notation, axiom, sorry.
-/
import Derived.Test.YtkfiekpinojahabChecked
import GoSem.Claim
import GoSem.ClaimJoined
import GoSem.ClaimMapViews
import Derived.JoinedTies
import Derived.KernelRfl
namespace Go.Proofs.Ytkfiekpinojahab
/- THE CELL 'sum', in the pinned program and in every row, IS THE sha256 OF THE DUMP (.gsa) THAT YtkfiekpinojahabProg.lean LOADS. Nothing in Lean hashes anything: it is a label: what it is worth is what the hold of that sum in a sandbox is worth. -/
noncomputable def Try.pinned : Pinned := { name := "ytkfiekpinojahab", sum := "652b1740ea6935d8164fd6455525441b935d1bd5d203efdb7ab37c58bdce3823", checked := Try.checked }
namespace Rows
def none {H : Type} : Left H := { results := [], args := [] }

/-- 'cardnetlaw23.VelocityPlays': WHATEVER THE INPUT: true; the input reads as it did. -/
def velocityPlaysSpec : ChangeSpec := { name := "velocityPlays", fn := fun _ => fun
  | [d1, d2] => { results := [.lit (.bool true)], args := [d1, d2] }
  | _ => none }
def velocityPlaysRow : OpenClaim := { program := "ytkfiekpinojahab", sum := "652b1740ea6935d8164fd6455525441b935d1bd5d203efdb7ab37c58bdce3823", func := "cardnet/cardnetlaw23.VelocityPlays", spec := "velocityPlays", apart := false }
def VelocityPlaysSaid : Prop := velocityPlaysRow.holds Try.pinned (OpenSpec.ofChange velocityPlaysSpec)

/-- ITS FALSE NEIGHBOUR: 'it returns false'. Refute it at one input. -/
def velocityPlaysWrong : ChangeSpec := { name := "velocityPlays", fn := fun _ => fun
  | [d1, d2] => { results := [.lit (.bool false)], args := [d1, d2] }
  | _ => none }
def VelocityPlaysWrongFalsely : Prop := velocityPlaysRow.holds Try.pinned (OpenSpec.ofChange velocityPlaysWrong)

/-- 'cardnetlaw23.VelocityExact': WHATEVER THE INPUT: true; the input reads as it did. -/
def velocityExactSpec : ChangeSpec := { name := "velocityExact", fn := fun _ => fun
  | [d] => { results := [.lit (.bool true)], args := [d] }
  | _ => none }
def velocityExactRow : OpenClaim := { program := "ytkfiekpinojahab", sum := "652b1740ea6935d8164fd6455525441b935d1bd5d203efdb7ab37c58bdce3823", func := "cardnet/cardnetlaw23.VelocityExact", spec := "velocityExact", apart := false }
def VelocityExactSaid : Prop := velocityExactRow.holds Try.pinned (OpenSpec.ofChange velocityExactSpec)

/-- ITS FALSE NEIGHBOUR: 'it returns false'. Refute it at one input. -/
def velocityExactWrong : ChangeSpec := { name := "velocityExact", fn := fun _ => fun
  | [d] => { results := [.lit (.bool false)], args := [d] }
  | _ => none }
def VelocityExactWrongFalsely : Prop := velocityExactRow.holds Try.pinned (OpenSpec.ofChange velocityExactWrong)

/-- 'cardnetlaw23.VelocityWindows': WHATEVER THE INPUT: true; the input reads as it did. -/
def velocityWindowsSpec : ChangeSpec := { name := "velocityWindows", fn := fun _ => fun
  | [d1, d2, d3] => { results := [.lit (.bool true)], args := [d1, d2, d3] }
  | _ => none }
def velocityWindowsRow : OpenClaim := { program := "ytkfiekpinojahab", sum := "652b1740ea6935d8164fd6455525441b935d1bd5d203efdb7ab37c58bdce3823", func := "cardnet/cardnetlaw23.VelocityWindows", spec := "velocityWindows", apart := false }
def VelocityWindowsSaid : Prop := velocityWindowsRow.holds Try.pinned (OpenSpec.ofChange velocityWindowsSpec)

/-- ITS FALSE NEIGHBOUR: 'it returns false'. Refute it at one input. -/
def velocityWindowsWrong : ChangeSpec := { name := "velocityWindows", fn := fun _ => fun
  | [d1, d2, d3] => { results := [.lit (.bool false)], args := [d1, d2, d3] }
  | _ => none }
def VelocityWindowsWrongFalsely : Prop := velocityWindowsRow.holds Try.pinned (OpenSpec.ofChange velocityWindowsWrong)

/-- 'cardnetlaw23.VelocityFull': WHATEVER THE INPUT: true; the input reads as it did. -/
def velocityFullSpec : ChangeSpec := { name := "velocityFull", fn := fun _ => fun
  | [d] => { results := [.lit (.bool true)], args := [d] }
  | _ => none }
def velocityFullRow : OpenClaim := { program := "ytkfiekpinojahab", sum := "652b1740ea6935d8164fd6455525441b935d1bd5d203efdb7ab37c58bdce3823", func := "cardnet/cardnetlaw23.VelocityFull", spec := "velocityFull", apart := false }
def VelocityFullSaid : Prop := velocityFullRow.holds Try.pinned (OpenSpec.ofChange velocityFullSpec)

/-- ITS FALSE NEIGHBOUR: 'it returns false'. Refute it at one input. -/
def velocityFullWrong : ChangeSpec := { name := "velocityFull", fn := fun _ => fun
  | [d] => { results := [.lit (.bool false)], args := [d] }
  | _ => none }
def VelocityFullWrongFalsely : Prop := velocityFullRow.holds Try.pinned (OpenSpec.ofChange velocityFullWrong)

/- THE SECOND FORM. 'bulk': how many values and letters a reading holds, each counted each time it is reached (what is shared counts as often as it is met; a slice's spare places count too). A statement '..UptoSaid' is the law's where the arguments, and the package variables that the reading takes, are together of bulk at most 1048576: NARROWER than '..Said'. Prove '..Said' where nothing that the law and all that it calls make is longer than what came in: it says more and counts as full. Else prove '..UptoSaid'. A law counts once. -/
mutual
def uptoBulk {H : Type} : DataW H → Nat
  | .lit (.string bytes) => bytes.length + 1
  | .lit _ => 1
  | .nil => 1
  | .ptr d => uptoBulk d + 1
  | .slice elems spare => uptoBulkAll elems + uptoBulkAll spare + 1
  | .agg parts => uptoBulkAll parts + 1
  | .iface _ d => uptoBulk d + 1
  | .map entries => uptoBulkEntries entries + 1
  | .held _ => 1
def uptoBulkAll {H : Type} : List (DataW H) → Nat
  | [] => 0
  | d :: r => uptoBulk d + uptoBulkAll r
def uptoBulkEntries {H : Type} : List (Lit × DataW H) → Nat
  | [] => 0
  | x :: r => uptoBulkEntry x + uptoBulkEntries r
def uptoBulkEntry {H : Type} : Lit × DataW H → Nat
  | (.string bytes, d) => bytes.length + uptoBulk d + 1
  | (_, d) => uptoBulk d + 1
 end
def uptoSmall : (H : Type) → List (DataW H) → Bool := fun _ ds => decide (uptoBulkAll ds ≤ 1048576)
def OpenSpec.upto (s : _root_.Go.ChangeSpec) : _root_.Go.OpenSpec := { _root_.Go.OpenSpec.ofChange s with cond := some uptoSmall }

/-- 'cardnetlaw23.VelocityPlays', WHERE WHAT IT READS IS OF BULK AT MOST 1048576: true; the input reads as it did. -/
def velocityPlaysUptoRow : OpenClaim := { program := "ytkfiekpinojahab", sum := "652b1740ea6935d8164fd6455525441b935d1bd5d203efdb7ab37c58bdce3823", func := "cardnet/cardnetlaw23.VelocityPlays", spec := "velocityPlays", apart := false, narrowed := true }
def VelocityPlaysUptoSaid : Prop := velocityPlaysUptoRow.holds Try.pinned (OpenSpec.upto velocityPlaysSpec)

/-- 'cardnetlaw23.VelocityExact', WHERE WHAT IT READS IS OF BULK AT MOST 1048576: true; the input reads as it did. -/
def velocityExactUptoRow : OpenClaim := { program := "ytkfiekpinojahab", sum := "652b1740ea6935d8164fd6455525441b935d1bd5d203efdb7ab37c58bdce3823", func := "cardnet/cardnetlaw23.VelocityExact", spec := "velocityExact", apart := false, narrowed := true }
def VelocityExactUptoSaid : Prop := velocityExactUptoRow.holds Try.pinned (OpenSpec.upto velocityExactSpec)

/-- 'cardnetlaw23.VelocityWindows', WHERE WHAT IT READS IS OF BULK AT MOST 1048576: true; the input reads as it did. -/
def velocityWindowsUptoRow : OpenClaim := { program := "ytkfiekpinojahab", sum := "652b1740ea6935d8164fd6455525441b935d1bd5d203efdb7ab37c58bdce3823", func := "cardnet/cardnetlaw23.VelocityWindows", spec := "velocityWindows", apart := false, narrowed := true }
def VelocityWindowsUptoSaid : Prop := velocityWindowsUptoRow.holds Try.pinned (OpenSpec.upto velocityWindowsSpec)

/-- 'cardnetlaw23.VelocityFull', WHERE WHAT IT READS IS OF BULK AT MOST 1048576: true; the input reads as it did. -/
def velocityFullUptoRow : OpenClaim := { program := "ytkfiekpinojahab", sum := "652b1740ea6935d8164fd6455525441b935d1bd5d203efdb7ab37c58bdce3823", func := "cardnet/cardnetlaw23.VelocityFull", spec := "velocityFull", apart := false, narrowed := true }
def VelocityFullUptoSaid : Prop := velocityFullUptoRow.holds Try.pinned (OpenSpec.upto velocityFullSpec)

end Rows
end Go.Proofs.Ytkfiekpinojahab
