/-
  DERIVED. GIVEN WITH THE SEED: THE CARDS: each row of YtfchpobjepdpgaaDoorRows.lean that lists a variable, with what it lists TIED to the program's text (the seventh form; the later family's looks); each row that meets fmt, with fmt's text TOLD by the authors' own Lean function (tested against real Go, not proved from fmt's source: count such statements apart). THE CARD IS WHAT COUNTS. Prove the row's statement (the work); the ties are given (YtfchpobjepdpgaaDoorTie.lean); close each card by the builder's one call (the guide's Derived/Test/ToyasCard.lean, 'card_holds'). Laid BY PROGRAM, IN A SANDBOX (cutbox-door.mjs). By AI agents, Wed Nov 11 2026. No macro, syntax, notation, axiom, sorry.
-/
import Derived.Test.YtfchpobjepdpgaaDoorRows
import GoSem.ClaimSeven
namespace Go.Proofs.YtfchpobjepdpgaaDoor
namespace Rows

/-- THE TIED CARD OF 'cardnetlaw07.ChecksumSums'. -/
def checksumSumsCard : Claim7 := { stood := { row := checksumSumsRow, standIns := [], harness := (true, "1eb8d5530066f393aa368fce54d8752c415164be47904ebd4f88ed42ec004fa8"), looks := false }, kinds := [], alts := [], laidByText := true, laidKinds := [.data, .data, .data], laidTests := true, laidLooks := .later }
def ChecksumSumsCardSaid : Prop := Claim7.holds Tryd.pinned (.plain (OpenSpec.ofChange checksumSumsSpec)) checksumSumsCard

/-- THE TIED CARD OF 'cardnetlaw07.ChecksumTotals'. -/
def checksumTotalsCard : Claim7 := { stood := { row := checksumTotalsRow, standIns := [], harness := (true, "1eb8d5530066f393aa368fce54d8752c415164be47904ebd4f88ed42ec004fa8"), looks := false }, kinds := [], alts := [], laidByText := true, laidKinds := [.data, .data, .data], laidTests := true, laidLooks := .later }
def ChecksumTotalsCardSaid : Prop := Claim7.holds Tryd.pinned (.plain (OpenSpec.ofChange checksumTotalsSpec)) checksumTotalsCard

/-- THE TIED CARD OF 'cardnetlaw07.ChecksumSeals'. -/
def checksumSealsCard : Claim7 := { stood := { row := checksumSealsRow, standIns := [], harness := (true, "1eb8d5530066f393aa368fce54d8752c415164be47904ebd4f88ed42ec004fa8"), looks := false }, kinds := [], alts := [], laidByText := true, laidKinds := [.data, .data, .data], laidTests := true, laidLooks := .later }
def ChecksumSealsCardSaid : Prop := Claim7.holds Tryd.pinned (.plain (OpenSpec.ofChange checksumSealsSpec)) checksumSealsCard

/-- THE TIED CARD OF 'cardnetlaw07.ChecksumBursts'. -/
def checksumBurstsCard : Claim7 := { stood := { row := checksumBurstsRow, standIns := [], harness := (true, "1eb8d5530066f393aa368fce54d8752c415164be47904ebd4f88ed42ec004fa8"), looks := false }, kinds := [], alts := [], laidByText := true, laidKinds := [.data, .data, .data], laidTests := true, laidLooks := .later }
def ChecksumBurstsCardSaid : Prop := Claim7.holds Tryd.pinned (.plain (OpenSpec.ofChange checksumBurstsSpec)) checksumBurstsCard

/-- THE TIED CARD OF 'cardnetlaw07.ChecksumOpens'. -/
def checksumOpensCard : Claim7 := { stood := { row := checksumOpensRow, standIns := [], harness := (true, "1eb8d5530066f393aa368fce54d8752c415164be47904ebd4f88ed42ec004fa8"), looks := false }, kinds := [], alts := [], laidByText := true, laidKinds := [.data, .data, .data], laidTests := true, laidLooks := .later }
def ChecksumOpensCardSaid : Prop := Claim7.holds Tryd.pinned (.plain (OpenSpec.ofChange checksumOpensSpec)) checksumOpensCard

/-- THE TIED CARD OF 'cardnetlaw07.ChecksumAdds'. -/
def checksumAddsCard : Claim7 := { stood := { row := checksumAddsRow, standIns := [], harness := (true, "1eb8d5530066f393aa368fce54d8752c415164be47904ebd4f88ed42ec004fa8"), looks := false }, kinds := [], alts := [], laidByText := true, laidKinds := [.data, .data, .data], laidTests := true, laidLooks := .later }
def ChecksumAddsCardSaid : Prop := Claim7.holds Tryd.pinned (.plain (OpenSpec.ofChange checksumAddsSpec)) checksumAddsCard

/-- THE SECOND FORM's CARD OF 'cardnetlaw07.ChecksumSums'. -/
def checksumSumsUptoCard : Claim7 := { stood := { row := checksumSumsUptoRow, standIns := [], harness := (true, "1eb8d5530066f393aa368fce54d8752c415164be47904ebd4f88ed42ec004fa8"), looks := false }, kinds := [], alts := [], laidByText := true, laidKinds := [.data, .data, .data], laidTests := true, laidLooks := .later }
def ChecksumSumsUptoCardSaid : Prop := Claim7.holds Tryd.pinned (.plain (OpenSpec.upto checksumSumsSpec)) checksumSumsUptoCard

/-- THE SECOND FORM's CARD OF 'cardnetlaw07.ChecksumTotals'. -/
def checksumTotalsUptoCard : Claim7 := { stood := { row := checksumTotalsUptoRow, standIns := [], harness := (true, "1eb8d5530066f393aa368fce54d8752c415164be47904ebd4f88ed42ec004fa8"), looks := false }, kinds := [], alts := [], laidByText := true, laidKinds := [.data, .data, .data], laidTests := true, laidLooks := .later }
def ChecksumTotalsUptoCardSaid : Prop := Claim7.holds Tryd.pinned (.plain (OpenSpec.upto checksumTotalsSpec)) checksumTotalsUptoCard

/-- THE SECOND FORM's CARD OF 'cardnetlaw07.ChecksumSeals'. -/
def checksumSealsUptoCard : Claim7 := { stood := { row := checksumSealsUptoRow, standIns := [], harness := (true, "1eb8d5530066f393aa368fce54d8752c415164be47904ebd4f88ed42ec004fa8"), looks := false }, kinds := [], alts := [], laidByText := true, laidKinds := [.data, .data, .data], laidTests := true, laidLooks := .later }
def ChecksumSealsUptoCardSaid : Prop := Claim7.holds Tryd.pinned (.plain (OpenSpec.upto checksumSealsSpec)) checksumSealsUptoCard

/-- THE SECOND FORM's CARD OF 'cardnetlaw07.ChecksumBursts'. -/
def checksumBurstsUptoCard : Claim7 := { stood := { row := checksumBurstsUptoRow, standIns := [], harness := (true, "1eb8d5530066f393aa368fce54d8752c415164be47904ebd4f88ed42ec004fa8"), looks := false }, kinds := [], alts := [], laidByText := true, laidKinds := [.data, .data, .data], laidTests := true, laidLooks := .later }
def ChecksumBurstsUptoCardSaid : Prop := Claim7.holds Tryd.pinned (.plain (OpenSpec.upto checksumBurstsSpec)) checksumBurstsUptoCard

/-- THE SECOND FORM's CARD OF 'cardnetlaw07.ChecksumOpens'. -/
def checksumOpensUptoCard : Claim7 := { stood := { row := checksumOpensUptoRow, standIns := [], harness := (true, "1eb8d5530066f393aa368fce54d8752c415164be47904ebd4f88ed42ec004fa8"), looks := false }, kinds := [], alts := [], laidByText := true, laidKinds := [.data, .data, .data], laidTests := true, laidLooks := .later }
def ChecksumOpensUptoCardSaid : Prop := Claim7.holds Tryd.pinned (.plain (OpenSpec.upto checksumOpensSpec)) checksumOpensUptoCard

/-- THE SECOND FORM's CARD OF 'cardnetlaw07.ChecksumAdds'. -/
def checksumAddsUptoCard : Claim7 := { stood := { row := checksumAddsUptoRow, standIns := [], harness := (true, "1eb8d5530066f393aa368fce54d8752c415164be47904ebd4f88ed42ec004fa8"), looks := false }, kinds := [], alts := [], laidByText := true, laidKinds := [.data, .data, .data], laidTests := true, laidLooks := .later }
def ChecksumAddsUptoCardSaid : Prop := Claim7.holds Tryd.pinned (.plain (OpenSpec.upto checksumAddsSpec)) checksumAddsUptoCard
end Rows
end Go.Proofs.YtfchpobjepdpgaaDoor
