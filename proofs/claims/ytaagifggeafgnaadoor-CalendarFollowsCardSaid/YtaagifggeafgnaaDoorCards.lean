/-
  DERIVED. GIVEN WITH THE SEED: THE CARDS: each row of YtaagifggeafgnaaDoorRows.lean that lists a variable, with what it lists TIED to the program's text (the seventh form; the later family's looks); each row that meets fmt, with fmt's text TOLD by the authors' own Lean function (tested against real Go, not proved from fmt's source: count such statements apart). THE CARD IS WHAT COUNTS. Prove the row's statement (the work); the ties are given (YtaagifggeafgnaaDoorTie.lean); close each card by the builder's one call (the guide's Derived/Test/ToyasCard.lean, 'card_holds'). Laid BY PROGRAM, IN A SANDBOX (cutbox-door.mjs). By AI agents, Wed Nov 11 2026. No macro, syntax, notation, axiom, sorry.
-/
import Derived.Test.YtaagifggeafgnaaDoorRows
import GoSem.ClaimSeven
namespace Go.Proofs.YtaagifggeafgnaaDoor
namespace Rows

/-- THE TIED CARD OF 'cardnetlaw03.CalendarParts'. -/
def calendarPartsCard : Claim7 := { stood := { row := calendarPartsRow, standIns := [], harness := (true, "6ad730ca1b41b023546aa231103224f69a65cb889ddffc658445211c40d5306f"), looks := false }, kinds := [], alts := [], laidByText := true, laidKinds := [.data, .data, .data, .data], laidTests := true, laidLooks := .later }
def CalendarPartsCardSaid : Prop := Claim7.holds Tryd.pinned (.plain (OpenSpec.ofChange calendarPartsSpec)) calendarPartsCard

/-- THE TIED CARD OF 'cardnetlaw03.CalendarDates'. -/
def calendarDatesCard : Claim7 := { stood := { row := calendarDatesRow, standIns := [], harness := (true, "6ad730ca1b41b023546aa231103224f69a65cb889ddffc658445211c40d5306f"), looks := false }, kinds := [], alts := [], laidByText := true, laidKinds := [.data, .data, .data, .data], laidTests := true, laidLooks := .later }
def CalendarDatesCardSaid : Prop := Claim7.holds Tryd.pinned (.plain (OpenSpec.ofChange calendarDatesSpec)) calendarDatesCard

/-- THE TIED CARD OF 'cardnetlaw03.CalendarMonths'. -/
def calendarMonthsCard : Claim7 := { stood := { row := calendarMonthsRow, standIns := [], harness := (true, "6ad730ca1b41b023546aa231103224f69a65cb889ddffc658445211c40d5306f"), looks := false }, kinds := [], alts := [], laidByText := true, laidKinds := [.data, .data, .data, .data], laidTests := true, laidLooks := .later }
def CalendarMonthsCardSaid : Prop := Claim7.holds Tryd.pinned (.plain (OpenSpec.ofChange calendarMonthsSpec)) calendarMonthsCard

/-- THE TIED CARD OF 'cardnetlaw03.CalendarTimes'. -/
def calendarTimesCard : Claim7 := { stood := { row := calendarTimesRow, standIns := [], harness := (true, "6ad730ca1b41b023546aa231103224f69a65cb889ddffc658445211c40d5306f"), looks := false }, kinds := [], alts := [], laidByText := true, laidKinds := [.data, .data, .data, .data], laidTests := true, laidLooks := .later }
def CalendarTimesCardSaid : Prop := Claim7.holds Tryd.pinned (.plain (OpenSpec.ofChange calendarTimesSpec)) calendarTimesCard

/-- THE TIED CARD OF 'cardnetlaw03.CalendarTexts'. -/
def calendarTextsCard : Claim7 := { stood := { row := calendarTextsRow, standIns := [], harness := (true, "6ad730ca1b41b023546aa231103224f69a65cb889ddffc658445211c40d5306f"), looks := false }, kinds := [], alts := [], laidByText := true, laidKinds := [.data, .data, .data, .data], laidTests := true, laidLooks := .later }
def CalendarTextsCardSaid : Prop := Claim7.holds Tryd.pinned (.plain (OpenSpec.ofChange calendarTextsSpec)) calendarTextsCard

/-- THE TIED CARD OF 'cardnetlaw03.CalendarFollows'. -/
def calendarFollowsCard : Claim7 := { stood := { row := calendarFollowsRow, standIns := [], harness := (true, "6ad730ca1b41b023546aa231103224f69a65cb889ddffc658445211c40d5306f"), looks := false }, kinds := [], alts := [], laidByText := true, laidKinds := [.data, .data, .data, .data], laidTests := true, laidLooks := .later }
def CalendarFollowsCardSaid : Prop := Claim7.holds Tryd.pinned (.plain (OpenSpec.ofChange calendarFollowsSpec)) calendarFollowsCard

/-- THE SECOND FORM's CARD OF 'cardnetlaw03.CalendarParts'. -/
def calendarPartsUptoCard : Claim7 := { stood := { row := calendarPartsUptoRow, standIns := [], harness := (true, "6ad730ca1b41b023546aa231103224f69a65cb889ddffc658445211c40d5306f"), looks := false }, kinds := [], alts := [], laidByText := true, laidKinds := [.data, .data, .data, .data], laidTests := true, laidLooks := .later }
def CalendarPartsUptoCardSaid : Prop := Claim7.holds Tryd.pinned (.plain (OpenSpec.upto calendarPartsSpec)) calendarPartsUptoCard

/-- THE SECOND FORM's CARD OF 'cardnetlaw03.CalendarDates'. -/
def calendarDatesUptoCard : Claim7 := { stood := { row := calendarDatesUptoRow, standIns := [], harness := (true, "6ad730ca1b41b023546aa231103224f69a65cb889ddffc658445211c40d5306f"), looks := false }, kinds := [], alts := [], laidByText := true, laidKinds := [.data, .data, .data, .data], laidTests := true, laidLooks := .later }
def CalendarDatesUptoCardSaid : Prop := Claim7.holds Tryd.pinned (.plain (OpenSpec.upto calendarDatesSpec)) calendarDatesUptoCard

/-- THE SECOND FORM's CARD OF 'cardnetlaw03.CalendarMonths'. -/
def calendarMonthsUptoCard : Claim7 := { stood := { row := calendarMonthsUptoRow, standIns := [], harness := (true, "6ad730ca1b41b023546aa231103224f69a65cb889ddffc658445211c40d5306f"), looks := false }, kinds := [], alts := [], laidByText := true, laidKinds := [.data, .data, .data, .data], laidTests := true, laidLooks := .later }
def CalendarMonthsUptoCardSaid : Prop := Claim7.holds Tryd.pinned (.plain (OpenSpec.upto calendarMonthsSpec)) calendarMonthsUptoCard

/-- THE SECOND FORM's CARD OF 'cardnetlaw03.CalendarTimes'. -/
def calendarTimesUptoCard : Claim7 := { stood := { row := calendarTimesUptoRow, standIns := [], harness := (true, "6ad730ca1b41b023546aa231103224f69a65cb889ddffc658445211c40d5306f"), looks := false }, kinds := [], alts := [], laidByText := true, laidKinds := [.data, .data, .data, .data], laidTests := true, laidLooks := .later }
def CalendarTimesUptoCardSaid : Prop := Claim7.holds Tryd.pinned (.plain (OpenSpec.upto calendarTimesSpec)) calendarTimesUptoCard

/-- THE SECOND FORM's CARD OF 'cardnetlaw03.CalendarTexts'. -/
def calendarTextsUptoCard : Claim7 := { stood := { row := calendarTextsUptoRow, standIns := [], harness := (true, "6ad730ca1b41b023546aa231103224f69a65cb889ddffc658445211c40d5306f"), looks := false }, kinds := [], alts := [], laidByText := true, laidKinds := [.data, .data, .data, .data], laidTests := true, laidLooks := .later }
def CalendarTextsUptoCardSaid : Prop := Claim7.holds Tryd.pinned (.plain (OpenSpec.upto calendarTextsSpec)) calendarTextsUptoCard

/-- THE SECOND FORM's CARD OF 'cardnetlaw03.CalendarFollows'. -/
def calendarFollowsUptoCard : Claim7 := { stood := { row := calendarFollowsUptoRow, standIns := [], harness := (true, "6ad730ca1b41b023546aa231103224f69a65cb889ddffc658445211c40d5306f"), looks := false }, kinds := [], alts := [], laidByText := true, laidKinds := [.data, .data, .data, .data], laidTests := true, laidLooks := .later }
def CalendarFollowsUptoCardSaid : Prop := Claim7.holds Tryd.pinned (.plain (OpenSpec.upto calendarFollowsSpec)) calendarFollowsUptoCard
end Rows
end Go.Proofs.YtaagifggeafgnaaDoor
