/-
  DERIVED. GIVEN WITH THE SEED: THE CARDS: each row of YtobnkfgikafanaaDoorRows.lean that lists a variable, with what it lists TIED to the program's text (the seventh form; the later family's looks); each row that meets fmt, with fmt's text TOLD by the authors' own Lean function (tested against real Go, not proved from fmt's source: count such statements apart). THE CARD IS WHAT COUNTS. Prove the row's statement (the work); the ties are given (YtobnkfgikafanaaDoorTie.lean); close each card by the builder's one call (the guide's Derived/Test/ToyasCard.lean, 'card_holds'). Laid BY PROGRAM, IN A SANDBOX (cutbox-door.mjs). By AI agents, Wed Nov 11 2026. No macro, syntax, notation, axiom, sorry.
-/
import Derived.Test.YtobnkfgikafanaaDoorRows
import GoSem.ClaimSeven
namespace Go.Proofs.YtobnkfgikafanaaDoor
namespace Rows

/-- THE TIED CARD OF 'cardnetlaw02.RateChecks'. -/
def rateChecksCard : Claim7 := { stood := { row := rateChecksRow, standIns := [], harness := (true, "f332c78fb35f743d02233c56b2710342a1f3849358fc1fc154463df6669968c5"), looks := true }, kinds := [], alts := [], laidByText := true, laidKinds := [.data, .data, .data], laidTests := true, laidLooks := .later }
def RateChecksCardSaid : Prop := Claim7.holds Tryd.pinned (.plain (OpenSpec.ofChange rateChecksSpec)) rateChecksCard

/-- THE TIED CARD OF 'cardnetlaw02.RateConverts'. -/
def rateConvertsCard : Claim7 := { stood := { row := rateConvertsRow, standIns := [], harness := (true, "f332c78fb35f743d02233c56b2710342a1f3849358fc1fc154463df6669968c5"), looks := true }, kinds := [], alts := [], laidByText := true, laidKinds := [.data, .data, .data], laidTests := true, laidLooks := .later }
def RateConvertsCardSaid : Prop := Claim7.holds Tryd.pinned (.plain (OpenSpec.ofChange rateConvertsSpec)) rateConvertsCard

/-- THE TIED CARD OF 'cardnetlaw02.RateMakes'. -/
def rateMakesCard : Claim7 := { stood := { row := rateMakesRow, standIns := [], harness := (true, "f332c78fb35f743d02233c56b2710342a1f3849358fc1fc154463df6669968c5"), looks := true }, kinds := [], alts := [], laidByText := true, laidKinds := [.data, .data, .data], laidTests := true, laidLooks := .later }
def RateMakesCardSaid : Prop := Claim7.holds Tryd.pinned (.plain (OpenSpec.ofChange rateMakesSpec)) rateMakesCard

/-- THE TIED CARD OF 'cardnetlaw02.RateFinds'. -/
def rateFindsCard : Claim7 := { stood := { row := rateFindsRow, standIns := [], harness := (true, "f332c78fb35f743d02233c56b2710342a1f3849358fc1fc154463df6669968c5"), looks := true }, kinds := [], alts := [], laidByText := true, laidKinds := [.data, .data, .data], laidTests := true, laidLooks := .later }
def RateFindsCardSaid : Prop := Claim7.holds Tryd.pinned (.plain (OpenSpec.ofChange rateFindsSpec)) rateFindsCard

/-- THE TIED CARD OF 'cardnetlaw02.RateRounds'. -/
def rateRoundsCard : Claim7 := { stood := { row := rateRoundsRow, standIns := [], harness := (true, "f332c78fb35f743d02233c56b2710342a1f3849358fc1fc154463df6669968c5"), looks := true }, kinds := [], alts := [], laidByText := true, laidKinds := [.data, .data, .data], laidTests := true, laidLooks := .later }
def RateRoundsCardSaid : Prop := Claim7.holds Tryd.pinned (.plain (OpenSpec.ofChange rateRoundsSpec)) rateRoundsCard

/-- THE TIED CARD OF 'cardnetlaw02.RateTexts'. -/
def rateTextsCard : Claim7 := { stood := { row := rateTextsRow, standIns := [], harness := (true, "f332c78fb35f743d02233c56b2710342a1f3849358fc1fc154463df6669968c5"), looks := true }, kinds := [], alts := [], laidByText := true, laidKinds := [.data, .data, .data, .sentinel, .sentinel], laidTests := true, laidLooks := .later }
def RateTextsCardSaid : Prop := Claim7.holds Tryd.pinned (.plain (OpenSpec.ofChange rateTextsSpec)) rateTextsCard

/-- THE SECOND FORM's CARD OF 'cardnetlaw02.RateChecks'. -/
def rateChecksUptoCard : Claim7 := { stood := { row := rateChecksUptoRow, standIns := [], harness := (true, "f332c78fb35f743d02233c56b2710342a1f3849358fc1fc154463df6669968c5"), looks := true }, kinds := [], alts := [], laidByText := true, laidKinds := [.data, .data, .data], laidTests := true, laidLooks := .later }
def RateChecksUptoCardSaid : Prop := Claim7.holds Tryd.pinned (.plain (OpenSpec.upto rateChecksSpec)) rateChecksUptoCard

/-- THE SECOND FORM's CARD OF 'cardnetlaw02.RateConverts'. -/
def rateConvertsUptoCard : Claim7 := { stood := { row := rateConvertsUptoRow, standIns := [], harness := (true, "f332c78fb35f743d02233c56b2710342a1f3849358fc1fc154463df6669968c5"), looks := true }, kinds := [], alts := [], laidByText := true, laidKinds := [.data, .data, .data], laidTests := true, laidLooks := .later }
def RateConvertsUptoCardSaid : Prop := Claim7.holds Tryd.pinned (.plain (OpenSpec.upto rateConvertsSpec)) rateConvertsUptoCard

/-- THE SECOND FORM's CARD OF 'cardnetlaw02.RateMakes'. -/
def rateMakesUptoCard : Claim7 := { stood := { row := rateMakesUptoRow, standIns := [], harness := (true, "f332c78fb35f743d02233c56b2710342a1f3849358fc1fc154463df6669968c5"), looks := true }, kinds := [], alts := [], laidByText := true, laidKinds := [.data, .data, .data], laidTests := true, laidLooks := .later }
def RateMakesUptoCardSaid : Prop := Claim7.holds Tryd.pinned (.plain (OpenSpec.upto rateMakesSpec)) rateMakesUptoCard

/-- THE SECOND FORM's CARD OF 'cardnetlaw02.RateFinds'. -/
def rateFindsUptoCard : Claim7 := { stood := { row := rateFindsUptoRow, standIns := [], harness := (true, "f332c78fb35f743d02233c56b2710342a1f3849358fc1fc154463df6669968c5"), looks := true }, kinds := [], alts := [], laidByText := true, laidKinds := [.data, .data, .data], laidTests := true, laidLooks := .later }
def RateFindsUptoCardSaid : Prop := Claim7.holds Tryd.pinned (.plain (OpenSpec.upto rateFindsSpec)) rateFindsUptoCard

/-- THE SECOND FORM's CARD OF 'cardnetlaw02.RateRounds'. -/
def rateRoundsUptoCard : Claim7 := { stood := { row := rateRoundsUptoRow, standIns := [], harness := (true, "f332c78fb35f743d02233c56b2710342a1f3849358fc1fc154463df6669968c5"), looks := true }, kinds := [], alts := [], laidByText := true, laidKinds := [.data, .data, .data], laidTests := true, laidLooks := .later }
def RateRoundsUptoCardSaid : Prop := Claim7.holds Tryd.pinned (.plain (OpenSpec.upto rateRoundsSpec)) rateRoundsUptoCard

/-- THE SECOND FORM's CARD OF 'cardnetlaw02.RateTexts'. -/
def rateTextsUptoCard : Claim7 := { stood := { row := rateTextsUptoRow, standIns := [], harness := (true, "f332c78fb35f743d02233c56b2710342a1f3849358fc1fc154463df6669968c5"), looks := true }, kinds := [], alts := [], laidByText := true, laidKinds := [.data, .data, .data, .sentinel, .sentinel], laidTests := true, laidLooks := .later }
def RateTextsUptoCardSaid : Prop := Claim7.holds Tryd.pinned (.plain (OpenSpec.upto rateTextsSpec)) rateTextsUptoCard
end Rows
end Go.Proofs.YtobnkfgikafanaaDoor
