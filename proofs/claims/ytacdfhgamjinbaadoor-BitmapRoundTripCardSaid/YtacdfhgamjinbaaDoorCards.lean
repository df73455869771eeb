/-
  DERIVED. GIVEN WITH THE SEED: THE CARDS: each row of YtacdfhgamjinbaaDoorRows.lean that lists a variable, with what it lists TIED to the program's text (the seventh form; the later family's looks); each row that meets fmt, with fmt's text TOLD by the authors' own Lean function (tested against real Go, not proved from fmt's source: count such statements apart). THE CARD IS WHAT COUNTS. Prove the row's statement (the work); the ties are given (YtacdfhgamjinbaaDoorTie.lean); close each card by the builder's one call (the guide's Derived/Test/ToyasCard.lean, 'card_holds'). Laid BY PROGRAM, IN A SANDBOX (cutbox-door.mjs). By AI agents, Wed Nov 11 2026. No macro, syntax, notation, axiom, sorry.
-/
import Derived.Test.YtacdfhgamjinbaaDoorRows
import GoSem.ClaimSeven
namespace Go.Proofs.YtacdfhgamjinbaaDoor
namespace Rows

/-- THE TIED CARD OF 'cardnetlaw05.BitmapSets'. -/
def bitmapSetsCard : Claim7 := { stood := { row := bitmapSetsRow, standIns := [], harness := (true, "c6f6cf6d74faeea5c07876496099df11fd72527a67d540dbf825aa1517703a18"), looks := true }, kinds := [], alts := [], laidByText := true, laidKinds := [.data, .data, .data], laidTests := true, laidLooks := .later }
def BitmapSetsCardSaid : Prop := Claim7.holds Tryd.pinned (.plain (OpenSpec.ofChange bitmapSetsSpec)) bitmapSetsCard

/-- THE TIED CARD OF 'cardnetlaw05.BitmapOf'. -/
def bitmapOfCard : Claim7 := { stood := { row := bitmapOfRow, standIns := [], harness := (true, "c6f6cf6d74faeea5c07876496099df11fd72527a67d540dbf825aa1517703a18"), looks := true }, kinds := [], alts := [], laidByText := true, laidKinds := [.data, .data, .data], laidTests := true, laidLooks := .later }
def BitmapOfCardSaid : Prop := Claim7.holds Tryd.pinned (.plain (OpenSpec.ofChange bitmapOfSpec)) bitmapOfCard

/-- THE TIED CARD OF 'cardnetlaw05.BitmapJoins'. -/
def bitmapJoinsCard : Claim7 := { stood := { row := bitmapJoinsRow, standIns := [], harness := (true, "c6f6cf6d74faeea5c07876496099df11fd72527a67d540dbf825aa1517703a18"), looks := true }, kinds := [], alts := [], laidByText := true, laidKinds := [.data, .data, .data], laidTests := true, laidLooks := .later }
def BitmapJoinsCardSaid : Prop := Claim7.holds Tryd.pinned (.plain (OpenSpec.ofChange bitmapJoinsSpec)) bitmapJoinsCard

/-- THE TIED CARD OF 'cardnetlaw05.BitmapCodes'. -/
def bitmapCodesCard : Claim7 := { stood := { row := bitmapCodesRow, standIns := [], harness := (true, "c6f6cf6d74faeea5c07876496099df11fd72527a67d540dbf825aa1517703a18"), looks := true }, kinds := [], alts := [], laidByText := true, laidKinds := [.data, .data, .data, .sentinel, .sentinel], laidTests := true, laidLooks := .later }
def BitmapCodesCardSaid : Prop := Claim7.holds Tryd.pinned (.plain (OpenSpec.ofChange bitmapCodesSpec)) bitmapCodesCard

/-- THE TIED CARD OF 'cardnetlaw05.BitmapRoundTrip'. -/
def bitmapRoundTripCard : Claim7 := { stood := { row := bitmapRoundTripRow, standIns := [], harness := (true, "c6f6cf6d74faeea5c07876496099df11fd72527a67d540dbf825aa1517703a18"), looks := true }, kinds := [], alts := [], laidByText := true, laidKinds := [.data, .data, .data, .sentinel, .sentinel], laidTests := true, laidLooks := .later }
def BitmapRoundTripCardSaid : Prop := Claim7.holds Tryd.pinned (.plain (OpenSpec.ofChange bitmapRoundTripSpec)) bitmapRoundTripCard

/-- THE TIED CARD OF 'cardnetlaw05.BitmapCounts'. -/
def bitmapCountsCard : Claim7 := { stood := { row := bitmapCountsRow, standIns := [], harness := (true, "c6f6cf6d74faeea5c07876496099df11fd72527a67d540dbf825aa1517703a18"), looks := true }, kinds := [], alts := [], laidByText := true, laidKinds := [.data, .data, .data], laidTests := true, laidLooks := .later }
def BitmapCountsCardSaid : Prop := Claim7.holds Tryd.pinned (.plain (OpenSpec.ofChange bitmapCountsSpec)) bitmapCountsCard

/-- THE SECOND FORM's CARD OF 'cardnetlaw05.BitmapSets'. -/
def bitmapSetsUptoCard : Claim7 := { stood := { row := bitmapSetsUptoRow, standIns := [], harness := (true, "c6f6cf6d74faeea5c07876496099df11fd72527a67d540dbf825aa1517703a18"), looks := true }, kinds := [], alts := [], laidByText := true, laidKinds := [.data, .data, .data], laidTests := true, laidLooks := .later }
def BitmapSetsUptoCardSaid : Prop := Claim7.holds Tryd.pinned (.plain (OpenSpec.upto bitmapSetsSpec)) bitmapSetsUptoCard

/-- THE SECOND FORM's CARD OF 'cardnetlaw05.BitmapOf'. -/
def bitmapOfUptoCard : Claim7 := { stood := { row := bitmapOfUptoRow, standIns := [], harness := (true, "c6f6cf6d74faeea5c07876496099df11fd72527a67d540dbf825aa1517703a18"), looks := true }, kinds := [], alts := [], laidByText := true, laidKinds := [.data, .data, .data], laidTests := true, laidLooks := .later }
def BitmapOfUptoCardSaid : Prop := Claim7.holds Tryd.pinned (.plain (OpenSpec.upto bitmapOfSpec)) bitmapOfUptoCard

/-- THE SECOND FORM's CARD OF 'cardnetlaw05.BitmapJoins'. -/
def bitmapJoinsUptoCard : Claim7 := { stood := { row := bitmapJoinsUptoRow, standIns := [], harness := (true, "c6f6cf6d74faeea5c07876496099df11fd72527a67d540dbf825aa1517703a18"), looks := true }, kinds := [], alts := [], laidByText := true, laidKinds := [.data, .data, .data], laidTests := true, laidLooks := .later }
def BitmapJoinsUptoCardSaid : Prop := Claim7.holds Tryd.pinned (.plain (OpenSpec.upto bitmapJoinsSpec)) bitmapJoinsUptoCard

/-- THE SECOND FORM's CARD OF 'cardnetlaw05.BitmapCodes'. -/
def bitmapCodesUptoCard : Claim7 := { stood := { row := bitmapCodesUptoRow, standIns := [], harness := (true, "c6f6cf6d74faeea5c07876496099df11fd72527a67d540dbf825aa1517703a18"), looks := true }, kinds := [], alts := [], laidByText := true, laidKinds := [.data, .data, .data, .sentinel, .sentinel], laidTests := true, laidLooks := .later }
def BitmapCodesUptoCardSaid : Prop := Claim7.holds Tryd.pinned (.plain (OpenSpec.upto bitmapCodesSpec)) bitmapCodesUptoCard

/-- THE SECOND FORM's CARD OF 'cardnetlaw05.BitmapRoundTrip'. -/
def bitmapRoundTripUptoCard : Claim7 := { stood := { row := bitmapRoundTripUptoRow, standIns := [], harness := (true, "c6f6cf6d74faeea5c07876496099df11fd72527a67d540dbf825aa1517703a18"), looks := true }, kinds := [], alts := [], laidByText := true, laidKinds := [.data, .data, .data, .sentinel, .sentinel], laidTests := true, laidLooks := .later }
def BitmapRoundTripUptoCardSaid : Prop := Claim7.holds Tryd.pinned (.plain (OpenSpec.upto bitmapRoundTripSpec)) bitmapRoundTripUptoCard

/-- THE SECOND FORM's CARD OF 'cardnetlaw05.BitmapCounts'. -/
def bitmapCountsUptoCard : Claim7 := { stood := { row := bitmapCountsUptoRow, standIns := [], harness := (true, "c6f6cf6d74faeea5c07876496099df11fd72527a67d540dbf825aa1517703a18"), looks := true }, kinds := [], alts := [], laidByText := true, laidKinds := [.data, .data, .data], laidTests := true, laidLooks := .later }
def BitmapCountsUptoCardSaid : Prop := Claim7.holds Tryd.pinned (.plain (OpenSpec.upto bitmapCountsSpec)) bitmapCountsUptoCard
end Rows
end Go.Proofs.YtacdfhgamjinbaaDoor
