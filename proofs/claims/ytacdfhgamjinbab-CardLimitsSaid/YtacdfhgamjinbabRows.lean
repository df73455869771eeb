/-
  No cell of these rows narrows 'for every input' (looked for: loops, veiled, ifaces, maps, wideKeys, modest, calm, conditions, laid).
  DERIVED. THE GIVEN ROWS OF THIS SEAT. 5 by the template 'for every input the law returns true; each argument reads behind the call as it read before'; 0 by the template 'total and deterministic' (their statements: YtacdfhgamjinbabTotals.lean).
  GIVEN WITH THE SEED: the statements are not yours to turn. If you find one false, say at which input.
  Laid BY PROGRAM, IN A SANDBOX (cutbox-rows.mjs): the forced cells as the released guide's own fill.sh prints them over the translation 410c8d23eabc3942… (all of the seat's roots in one cut). By AI agents, Wed Nov 11 2026. No macro, syntax, notation, axiom, sorry.
-/
import Derived.Test.YtacdfhgamjinbabChecked
import GoSem.Claim
import GoSem.ClaimJoined
import GoSem.ClaimMapViews
import Derived.JoinedTies
import Derived.KernelRfl
namespace Go.Proofs.Ytacdfhgamjinbab
/- THE CELL 'sum', in the pinned program and in every row, IS THE sha256 OF THE DUMP (.gsa) THAT YtacdfhgamjinbabProg.lean LOADS. Nothing in Lean hashes anything: it is a label: what it is worth is what the hold of that sum in a sandbox is worth. -/
noncomputable def Try.pinned : Pinned := { name := "ytacdfhgamjinbab", sum := "410c8d23eabc39428eb6a4d3710fb9894acf5193de8e573649ccb7429047d7a3", checked := Try.checked }
namespace Rows
def none {H : Type} : Left H := { results := [], args := [] }

/-- 'cardnetlaw14.CardPlays': WHATEVER THE INPUT: true; the input reads as it did. -/
def cardPlaysSpec : ChangeSpec := { name := "cardPlays", fn := fun _ => fun
  | [d1, d2] => { results := [.lit (.bool true)], args := [d1, d2] }
  | _ => none }
def cardPlaysRow : OpenClaim := { program := "ytacdfhgamjinbab", sum := "410c8d23eabc39428eb6a4d3710fb9894acf5193de8e573649ccb7429047d7a3", func := "cardnet/cardnetlaw14.CardPlays", spec := "cardPlays", apart := false }
def CardPlaysSaid : Prop := cardPlaysRow.holds Try.pinned (OpenSpec.ofChange cardPlaysSpec)

/-- ITS FALSE NEIGHBOUR: 'it returns false'. Refute it at one input. -/
def cardPlaysWrong : ChangeSpec := { name := "cardPlays", fn := fun _ => fun
  | [d1, d2] => { results := [.lit (.bool false)], args := [d1, d2] }
  | _ => none }
def CardPlaysWrongFalsely : Prop := cardPlaysRow.holds Try.pinned (OpenSpec.ofChange cardPlaysWrong)

/-- 'cardnetlaw14.CardStates': WHATEVER THE INPUT: true; the input reads as it did. -/
def cardStatesSpec : ChangeSpec := { name := "cardStates", fn := fun _ => fun
  | [d1, d2] => { results := [.lit (.bool true)], args := [d1, d2] }
  | _ => none }
def cardStatesRow : OpenClaim := { program := "ytacdfhgamjinbab", sum := "410c8d23eabc39428eb6a4d3710fb9894acf5193de8e573649ccb7429047d7a3", func := "cardnet/cardnetlaw14.CardStates", spec := "cardStates", apart := false }
def CardStatesSaid : Prop := cardStatesRow.holds Try.pinned (OpenSpec.ofChange cardStatesSpec)

/-- ITS FALSE NEIGHBOUR: 'it returns false'. Refute it at one input. -/
def cardStatesWrong : ChangeSpec := { name := "cardStates", fn := fun _ => fun
  | [d1, d2] => { results := [.lit (.bool false)], args := [d1, d2] }
  | _ => none }
def CardStatesWrongFalsely : Prop := cardStatesRow.holds Try.pinned (OpenSpec.ofChange cardStatesWrong)

/-- 'cardnetlaw14.CardLimits': WHATEVER THE INPUT: true; the input reads as it did. -/
def cardLimitsSpec : ChangeSpec := { name := "cardLimits", fn := fun _ => fun
  | [d1, d2, d3] => { results := [.lit (.bool true)], args := [d1, d2, d3] }
  | _ => none }
def cardLimitsRow : OpenClaim := { program := "ytacdfhgamjinbab", sum := "410c8d23eabc39428eb6a4d3710fb9894acf5193de8e573649ccb7429047d7a3", func := "cardnet/cardnetlaw14.CardLimits", spec := "cardLimits", apart := false }
def CardLimitsSaid : Prop := cardLimitsRow.holds Try.pinned (OpenSpec.ofChange cardLimitsSpec)

/-- ITS FALSE NEIGHBOUR: 'it returns false'. Refute it at one input. -/
def cardLimitsWrong : ChangeSpec := { name := "cardLimits", fn := fun _ => fun
  | [d1, d2, d3] => { results := [.lit (.bool false)], args := [d1, d2, d3] }
  | _ => none }
def CardLimitsWrongFalsely : Prop := cardLimitsRow.holds Try.pinned (OpenSpec.ofChange cardLimitsWrong)

/-- 'cardnetlaw14.CardUndone': WHATEVER THE INPUT: true; the input reads as it did. -/
def cardUndoneSpec : ChangeSpec := { name := "cardUndone", fn := fun _ => fun
  | [d1, d2, d3] => { results := [.lit (.bool true)], args := [d1, d2, d3] }
  | _ => none }
def cardUndoneRow : OpenClaim := { program := "ytacdfhgamjinbab", sum := "410c8d23eabc39428eb6a4d3710fb9894acf5193de8e573649ccb7429047d7a3", func := "cardnet/cardnetlaw14.CardUndone", spec := "cardUndone", apart := false }
def CardUndoneSaid : Prop := cardUndoneRow.holds Try.pinned (OpenSpec.ofChange cardUndoneSpec)

/-- ITS FALSE NEIGHBOUR: 'it returns false'. Refute it at one input. -/
def cardUndoneWrong : ChangeSpec := { name := "cardUndone", fn := fun _ => fun
  | [d1, d2, d3] => { results := [.lit (.bool false)], args := [d1, d2, d3] }
  | _ => none }
def CardUndoneWrongFalsely : Prop := cardUndoneRow.holds Try.pinned (OpenSpec.ofChange cardUndoneWrong)

/-- 'cardnetlaw14.CardClosed': WHATEVER THE INPUT: true; the input reads as it did. -/
def cardClosedSpec : ChangeSpec := { name := "cardClosed", fn := fun _ => fun
  | [d1, d2] => { results := [.lit (.bool true)], args := [d1, d2] }
  | _ => none }
def cardClosedRow : OpenClaim := { program := "ytacdfhgamjinbab", sum := "410c8d23eabc39428eb6a4d3710fb9894acf5193de8e573649ccb7429047d7a3", func := "cardnet/cardnetlaw14.CardClosed", spec := "cardClosed", apart := false }
def CardClosedSaid : Prop := cardClosedRow.holds Try.pinned (OpenSpec.ofChange cardClosedSpec)

/-- ITS FALSE NEIGHBOUR: 'it returns false'. Refute it at one input. -/
def cardClosedWrong : ChangeSpec := { name := "cardClosed", fn := fun _ => fun
  | [d1, d2] => { results := [.lit (.bool false)], args := [d1, d2] }
  | _ => none }
def CardClosedWrongFalsely : Prop := cardClosedRow.holds Try.pinned (OpenSpec.ofChange cardClosedWrong)

/- THE SECOND FORM. 'bulk': how many values and letters a reading holds, each counted each time it is reached (what is shared counts as often as it is met; a slice's spare places count too). A statement '..UptoSaid' is the law's where the arguments, and the package variables that the reading takes, are together of bulk at most 1048576: NARROWER than '..Said'. Prove '..Said' where nothing that the law and all that it calls make is longer than what came in: it says more and counts as full. Else prove '..UptoSaid'. A law counts once. -/
mutual
def uptoBulk {H : Type} : DataW H → Nat
  | .lit (.string bytes) => bytes.length + 1
  | .lit _ => 1
  | .nil => 1
  | .ptr d => uptoBulk d + 1
  | .slice elems spare => uptoBulkAll elems + uptoBulkAll spare + 1
  | .agg parts => uptoBulkAll parts + 1
  | .iface _ d => uptoBulk d + 1
  | .map entries => uptoBulkEntries entries + 1
  | .held _ => 1
def uptoBulkAll {H : Type} : List (DataW H) → Nat
  | [] => 0
  | d :: r => uptoBulk d + uptoBulkAll r
def uptoBulkEntries {H : Type} : List (Lit × DataW H) → Nat
  | [] => 0
  | x :: r => uptoBulkEntry x + uptoBulkEntries r
def uptoBulkEntry {H : Type} : Lit × DataW H → Nat
  | (.string bytes, d) => bytes.length + uptoBulk d + 1
  | (_, d) => uptoBulk d + 1
 end
def uptoSmall : (H : Type) → List (DataW H) → Bool := fun _ ds => decide (uptoBulkAll ds ≤ 1048576)
def OpenSpec.upto (s : _root_.Go.ChangeSpec) : _root_.Go.OpenSpec := { _root_.Go.OpenSpec.ofChange s with cond := some uptoSmall }

/-- 'cardnetlaw14.CardPlays', WHERE WHAT IT READS IS OF BULK AT MOST 1048576: true; the input reads as it did. -/
def cardPlaysUptoRow : OpenClaim := { program := "ytacdfhgamjinbab", sum := "410c8d23eabc39428eb6a4d3710fb9894acf5193de8e573649ccb7429047d7a3", func := "cardnet/cardnetlaw14.CardPlays", spec := "cardPlays", apart := false, narrowed := true }
def CardPlaysUptoSaid : Prop := cardPlaysUptoRow.holds Try.pinned (OpenSpec.upto cardPlaysSpec)

/-- 'cardnetlaw14.CardStates', WHERE WHAT IT READS IS OF BULK AT MOST 1048576: true; the input reads as it did. -/
def cardStatesUptoRow : OpenClaim := { program := "ytacdfhgamjinbab", sum := "410c8d23eabc39428eb6a4d3710fb9894acf5193de8e573649ccb7429047d7a3", func := "cardnet/cardnetlaw14.CardStates", spec := "cardStates", apart := false, narrowed := true }
def CardStatesUptoSaid : Prop := cardStatesUptoRow.holds Try.pinned (OpenSpec.upto cardStatesSpec)

/-- 'cardnetlaw14.CardLimits', WHERE WHAT IT READS IS OF BULK AT MOST 1048576: true; the input reads as it did. -/
def cardLimitsUptoRow : OpenClaim := { program := "ytacdfhgamjinbab", sum := "410c8d23eabc39428eb6a4d3710fb9894acf5193de8e573649ccb7429047d7a3", func := "cardnet/cardnetlaw14.CardLimits", spec := "cardLimits", apart := false, narrowed := true }
def CardLimitsUptoSaid : Prop := cardLimitsUptoRow.holds Try.pinned (OpenSpec.upto cardLimitsSpec)

/-- 'cardnetlaw14.CardUndone', WHERE WHAT IT READS IS OF BULK AT MOST 1048576: true; the input reads as it did. -/
def cardUndoneUptoRow : OpenClaim := { program := "ytacdfhgamjinbab", sum := "410c8d23eabc39428eb6a4d3710fb9894acf5193de8e573649ccb7429047d7a3", func := "cardnet/cardnetlaw14.CardUndone", spec := "cardUndone", apart := false, narrowed := true }
def CardUndoneUptoSaid : Prop := cardUndoneUptoRow.holds Try.pinned (OpenSpec.upto cardUndoneSpec)

/-- 'cardnetlaw14.CardClosed', WHERE WHAT IT READS IS OF BULK AT MOST 1048576: true; the input reads as it did. -/
def cardClosedUptoRow : OpenClaim := { program := "ytacdfhgamjinbab", sum := "410c8d23eabc39428eb6a4d3710fb9894acf5193de8e573649ccb7429047d7a3", func := "cardnet/cardnetlaw14.CardClosed", spec := "cardClosed", apart := false, narrowed := true }
def CardClosedUptoSaid : Prop := cardClosedUptoRow.holds Try.pinned (OpenSpec.upto cardClosedSpec)

end Rows
end Go.Proofs.Ytacdfhgamjinbab
