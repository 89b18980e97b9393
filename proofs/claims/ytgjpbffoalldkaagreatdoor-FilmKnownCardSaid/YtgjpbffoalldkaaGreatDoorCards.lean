/-
  DERIVED. GIVEN WITH THE SEED: THE CARDS: each row of YtgjpbffoalldkaaGreatDoorRows.lean that lists a variable, with what it lists TIED to the program's text (the seventh form; the later family's looks); each row that meets fmt, with fmt's text TOLD by the authors' own Lean function (tested against real Go, not proved from fmt's source: count such statements apart). THE CARD IS WHAT COUNTS. Prove the row's statement (the work); the ties are given (YtgjpbffoalldkaaGreatDoorTie.lean); close each card by the builder's one call (the guide's Derived/Test/ToyasCard.lean, 'card_holds'). Laid BY PROGRAM, IN A SANDBOX (cutbox-door.mjs). By AI agents, Wed Nov 11 2026. No macro, syntax, notation, axiom, sorry.
-/
import Derived.Test.YtgjpbffoalldkaaGreatDoorRows
import GoSem.ClaimSeven
namespace Go.Proofs.YtgjpbffoalldkaaGreatDoor
namespace Rows

/-- THE TIED CARD OF 'telecinelaw01.FilmNames'. -/
def filmNamesCard : Claim7 := { stood := { row := filmNamesRow, standIns := [], harness := (true, "4c26fcf74c310a378e6ebbb66de799e81f97655ce4d4ad11c7077e440c34aac6"), looks := true }, kinds := [], alts := [], laidByText := true, laidKinds := [.data, .data, .data, .data, .data, .data, .pinned], laidTests := true, laidLooks := .later }
def FilmNamesCardSaid : Prop := Claim7.holds Tryz.pinned (.plain (OpenSpec.ofChange filmNamesSpec)) filmNamesCard

/-- THE TIED CARD OF 'telecinelaw01.FilmChecks'. -/
def filmChecksCard : Claim7 := { stood := { row := filmChecksRow, standIns := [], harness := (true, "4c26fcf74c310a378e6ebbb66de799e81f97655ce4d4ad11c7077e440c34aac6"), looks := true }, kinds := [], alts := [], laidByText := true, laidKinds := [.data, .data, .data, .data, .data, .data, .pinned], laidTests := true, laidLooks := .later }
def FilmChecksCardSaid : Prop := Claim7.holds Tryz.pinned (.plain (OpenSpec.ofChange filmChecksSpec)) filmChecksCard

/-- THE TIED CARD OF 'telecinelaw01.FilmFeet'. -/
def filmFeetCard : Claim7 := { stood := { row := filmFeetRow, standIns := [], harness := (true, "4c26fcf74c310a378e6ebbb66de799e81f97655ce4d4ad11c7077e440c34aac6"), looks := true }, kinds := [], alts := [], laidByText := true, laidKinds := [.data, .data, .data, .data, .data, .data, .pinned], laidTests := true, laidLooks := .later }
def FilmFeetCardSaid : Prop := Claim7.holds Tryz.pinned (.plain (OpenSpec.ofChange filmFeetSpec)) filmFeetCard

/-- THE TIED CARD OF 'telecinelaw01.FilmGaps'. -/
def filmGapsCard : Claim7 := { stood := { row := filmGapsRow, standIns := [], harness := (true, "4c26fcf74c310a378e6ebbb66de799e81f97655ce4d4ad11c7077e440c34aac6"), looks := true }, kinds := [], alts := [], laidByText := true, laidKinds := [.data, .data, .data, .data, .data, .data, .pinned], laidTests := true, laidLooks := .later }
def FilmGapsCardSaid : Prop := Claim7.holds Tryz.pinned (.plain (OpenSpec.ofChange filmGapsSpec)) filmGapsCard

/-- THE TIED CARD OF 'telecinelaw01.FilmYears'. -/
def filmYearsCard : Claim7 := { stood := { row := filmYearsRow, standIns := [], harness := (true, "4c26fcf74c310a378e6ebbb66de799e81f97655ce4d4ad11c7077e440c34aac6"), looks := true }, kinds := [], alts := [], laidByText := true, laidKinds := [.data, .data, .data, .data, .data, .data, .pinned], laidTests := true, laidLooks := .later }
def FilmYearsCardSaid : Prop := Claim7.holds Tryz.pinned (.plain (OpenSpec.ofChange filmYearsSpec)) filmYearsCard

/-- THE TIED CARD OF 'telecinelaw01.FilmCards'. -/
def filmCardsCard : Claim7 := { stood := { row := filmCardsRow, standIns := [], harness := (true, "4c26fcf74c310a378e6ebbb66de799e81f97655ce4d4ad11c7077e440c34aac6"), looks := true }, kinds := [], alts := [], laidByText := true, laidKinds := [.data, .data, .data, .data, .sentinel, .sentinel, .data, .data, .pinned], laidTests := true, laidLooks := .later }
def FilmCardsCardSaid : Prop := Claim7.holds Tryz.pinned (.plain (OpenSpec.ofChange filmCardsSpec)) filmCardsCard

/-- THE TIED CARD OF 'telecinelaw01.FilmCut'. -/
def filmCutCard : Claim7 := { stood := { row := filmCutRow, standIns := [], harness := (true, "4c26fcf74c310a378e6ebbb66de799e81f97655ce4d4ad11c7077e440c34aac6"), looks := true }, kinds := [], alts := [], laidByText := true, laidKinds := [.data, .data, .data, .data, .data, .data, .pinned], laidTests := true, laidLooks := .later }
def FilmCutCardSaid : Prop := Claim7.holds Tryz.pinned (.plain (OpenSpec.ofChange filmCutSpec)) filmCutCard

/-- THE TIED CARD OF 'telecinelaw01.FilmDated'. -/
def filmDatedCard : Claim7 := { stood := { row := filmDatedRow, standIns := [], harness := (true, "4c26fcf74c310a378e6ebbb66de799e81f97655ce4d4ad11c7077e440c34aac6"), looks := true }, kinds := [], alts := [], laidByText := true, laidKinds := [.data, .data, .data, .data, .data, .data, .pinned], laidTests := true, laidLooks := .later }
def FilmDatedCardSaid : Prop := Claim7.holds Tryz.pinned (.plain (OpenSpec.ofChange filmDatedSpec)) filmDatedCard

/-- THE TIED CARD OF 'telecinelaw01.FilmShrunk'. -/
def filmShrunkCard : Claim7 := { stood := { row := filmShrunkRow, standIns := [], harness := (true, "4c26fcf74c310a378e6ebbb66de799e81f97655ce4d4ad11c7077e440c34aac6"), looks := true }, kinds := [], alts := [], laidByText := true, laidKinds := [.data, .data, .data, .data, .data, .data, .pinned], laidTests := true, laidLooks := .later }
def FilmShrunkCardSaid : Prop := Claim7.holds Tryz.pinned (.plain (OpenSpec.ofChange filmShrunkSpec)) filmShrunkCard

/-- THE TIED CARD OF 'telecinelaw01.FilmFurther'. -/
def filmFurtherCard : Claim7 := { stood := { row := filmFurtherRow, standIns := [], harness := (true, "4c26fcf74c310a378e6ebbb66de799e81f97655ce4d4ad11c7077e440c34aac6"), looks := true }, kinds := [], alts := [], laidByText := true, laidKinds := [.data, .data, .data, .data, .data, .data, .pinned], laidTests := true, laidLooks := .later }
def FilmFurtherCardSaid : Prop := Claim7.holds Tryz.pinned (.plain (OpenSpec.ofChange filmFurtherSpec)) filmFurtherCard

/-- THE TIED CARD OF 'telecinelaw01.FilmTurned'. -/
def filmTurnedCard : Claim7 := { stood := { row := filmTurnedRow, standIns := [], harness := (true, "4c26fcf74c310a378e6ebbb66de799e81f97655ce4d4ad11c7077e440c34aac6"), looks := true }, kinds := [], alts := [], laidByText := true, laidKinds := [.data, .data, .data, .data, .data, .data, .pinned], laidTests := true, laidLooks := .later }
def FilmTurnedCardSaid : Prop := Claim7.holds Tryz.pinned (.plain (OpenSpec.ofChange filmTurnedSpec)) filmTurnedCard

/-- THE TIED CARD OF 'telecinelaw01.FilmRound'. -/
def filmRoundCard : Claim7 := { stood := { row := filmRoundRow, standIns := [], harness := (true, "4c26fcf74c310a378e6ebbb66de799e81f97655ce4d4ad11c7077e440c34aac6"), looks := true }, kinds := [], alts := [], laidByText := true, laidKinds := [.data, .data, .data, .data, .sentinel, .sentinel, .data, .data, .pinned], laidTests := true, laidLooks := .later }
def FilmRoundCardSaid : Prop := Claim7.holds Tryz.pinned (.plain (OpenSpec.ofChange filmRoundSpec)) filmRoundCard

/-- THE TIED CARD OF 'telecinelaw01.FilmKnown'. -/
def filmKnownCard : Claim7 := { stood := { row := filmKnownRow, standIns := [], harness := (true, "4c26fcf74c310a378e6ebbb66de799e81f97655ce4d4ad11c7077e440c34aac6"), looks := true }, kinds := [], alts := [], laidByText := true, laidKinds := [.data, .data, .data, .data, .data, .data, .pinned], laidTests := true, laidLooks := .later }
def FilmKnownCardSaid : Prop := Claim7.holds Tryz.pinned (.plain (OpenSpec.ofChange filmKnownSpec)) filmKnownCard

/-- THE SECOND FORM's CARD OF 'telecinelaw01.FilmNames'. -/
def filmNamesUptoCard : Claim7 := { stood := { row := filmNamesUptoRow, standIns := [], harness := (true, "4c26fcf74c310a378e6ebbb66de799e81f97655ce4d4ad11c7077e440c34aac6"), looks := true }, kinds := [], alts := [], laidByText := true, laidKinds := [.data, .data, .data, .data, .data, .data, .pinned], laidTests := true, laidLooks := .later }
def FilmNamesUptoCardSaid : Prop := Claim7.holds Tryz.pinned (.plain (OpenSpec.upto filmNamesSpec)) filmNamesUptoCard

/-- THE SECOND FORM's CARD OF 'telecinelaw01.FilmChecks'. -/
def filmChecksUptoCard : Claim7 := { stood := { row := filmChecksUptoRow, standIns := [], harness := (true, "4c26fcf74c310a378e6ebbb66de799e81f97655ce4d4ad11c7077e440c34aac6"), looks := true }, kinds := [], alts := [], laidByText := true, laidKinds := [.data, .data, .data, .data, .data, .data, .pinned], laidTests := true, laidLooks := .later }
def FilmChecksUptoCardSaid : Prop := Claim7.holds Tryz.pinned (.plain (OpenSpec.upto filmChecksSpec)) filmChecksUptoCard

/-- THE SECOND FORM's CARD OF 'telecinelaw01.FilmFeet'. -/
def filmFeetUptoCard : Claim7 := { stood := { row := filmFeetUptoRow, standIns := [], harness := (true, "4c26fcf74c310a378e6ebbb66de799e81f97655ce4d4ad11c7077e440c34aac6"), looks := true }, kinds := [], alts := [], laidByText := true, laidKinds := [.data, .data, .data, .data, .data, .data, .pinned], laidTests := true, laidLooks := .later }
def FilmFeetUptoCardSaid : Prop := Claim7.holds Tryz.pinned (.plain (OpenSpec.upto filmFeetSpec)) filmFeetUptoCard

/-- THE SECOND FORM's CARD OF 'telecinelaw01.FilmGaps'. -/
def filmGapsUptoCard : Claim7 := { stood := { row := filmGapsUptoRow, standIns := [], harness := (true, "4c26fcf74c310a378e6ebbb66de799e81f97655ce4d4ad11c7077e440c34aac6"), looks := true }, kinds := [], alts := [], laidByText := true, laidKinds := [.data, .data, .data, .data, .data, .data, .pinned], laidTests := true, laidLooks := .later }
def FilmGapsUptoCardSaid : Prop := Claim7.holds Tryz.pinned (.plain (OpenSpec.upto filmGapsSpec)) filmGapsUptoCard

/-- THE SECOND FORM's CARD OF 'telecinelaw01.FilmYears'. -/
def filmYearsUptoCard : Claim7 := { stood := { row := filmYearsUptoRow, standIns := [], harness := (true, "4c26fcf74c310a378e6ebbb66de799e81f97655ce4d4ad11c7077e440c34aac6"), looks := true }, kinds := [], alts := [], laidByText := true, laidKinds := [.data, .data, .data, .data, .data, .data, .pinned], laidTests := true, laidLooks := .later }
def FilmYearsUptoCardSaid : Prop := Claim7.holds Tryz.pinned (.plain (OpenSpec.upto filmYearsSpec)) filmYearsUptoCard

/-- THE SECOND FORM's CARD OF 'telecinelaw01.FilmCards'. -/
def filmCardsUptoCard : Claim7 := { stood := { row := filmCardsUptoRow, standIns := [], harness := (true, "4c26fcf74c310a378e6ebbb66de799e81f97655ce4d4ad11c7077e440c34aac6"), looks := true }, kinds := [], alts := [], laidByText := true, laidKinds := [.data, .data, .data, .data, .sentinel, .sentinel, .data, .data, .pinned], laidTests := true, laidLooks := .later }
def FilmCardsUptoCardSaid : Prop := Claim7.holds Tryz.pinned (.plain (OpenSpec.upto filmCardsSpec)) filmCardsUptoCard

/-- THE SECOND FORM's CARD OF 'telecinelaw01.FilmCut'. -/
def filmCutUptoCard : Claim7 := { stood := { row := filmCutUptoRow, standIns := [], harness := (true, "4c26fcf74c310a378e6ebbb66de799e81f97655ce4d4ad11c7077e440c34aac6"), looks := true }, kinds := [], alts := [], laidByText := true, laidKinds := [.data, .data, .data, .data, .data, .data, .pinned], laidTests := true, laidLooks := .later }
def FilmCutUptoCardSaid : Prop := Claim7.holds Tryz.pinned (.plain (OpenSpec.upto filmCutSpec)) filmCutUptoCard

/-- THE SECOND FORM's CARD OF 'telecinelaw01.FilmDated'. -/
def filmDatedUptoCard : Claim7 := { stood := { row := filmDatedUptoRow, standIns := [], harness := (true, "4c26fcf74c310a378e6ebbb66de799e81f97655ce4d4ad11c7077e440c34aac6"), looks := true }, kinds := [], alts := [], laidByText := true, laidKinds := [.data, .data, .data, .data, .data, .data, .pinned], laidTests := true, laidLooks := .later }
def FilmDatedUptoCardSaid : Prop := Claim7.holds Tryz.pinned (.plain (OpenSpec.upto filmDatedSpec)) filmDatedUptoCard

/-- THE SECOND FORM's CARD OF 'telecinelaw01.FilmShrunk'. -/
def filmShrunkUptoCard : Claim7 := { stood := { row := filmShrunkUptoRow, standIns := [], harness := (true, "4c26fcf74c310a378e6ebbb66de799e81f97655ce4d4ad11c7077e440c34aac6"), looks := true }, kinds := [], alts := [], laidByText := true, laidKinds := [.data, .data, .data, .data, .data, .data, .pinned], laidTests := true, laidLooks := .later }
def FilmShrunkUptoCardSaid : Prop := Claim7.holds Tryz.pinned (.plain (OpenSpec.upto filmShrunkSpec)) filmShrunkUptoCard

/-- THE SECOND FORM's CARD OF 'telecinelaw01.FilmFurther'. -/
def filmFurtherUptoCard : Claim7 := { stood := { row := filmFurtherUptoRow, standIns := [], harness := (true, "4c26fcf74c310a378e6ebbb66de799e81f97655ce4d4ad11c7077e440c34aac6"), looks := true }, kinds := [], alts := [], laidByText := true, laidKinds := [.data, .data, .data, .data, .data, .data, .pinned], laidTests := true, laidLooks := .later }
def FilmFurtherUptoCardSaid : Prop := Claim7.holds Tryz.pinned (.plain (OpenSpec.upto filmFurtherSpec)) filmFurtherUptoCard

/-- THE SECOND FORM's CARD OF 'telecinelaw01.FilmTurned'. -/
def filmTurnedUptoCard : Claim7 := { stood := { row := filmTurnedUptoRow, standIns := [], harness := (true, "4c26fcf74c310a378e6ebbb66de799e81f97655ce4d4ad11c7077e440c34aac6"), looks := true }, kinds := [], alts := [], laidByText := true, laidKinds := [.data, .data, .data, .data, .data, .data, .pinned], laidTests := true, laidLooks := .later }
def FilmTurnedUptoCardSaid : Prop := Claim7.holds Tryz.pinned (.plain (OpenSpec.upto filmTurnedSpec)) filmTurnedUptoCard

/-- THE SECOND FORM's CARD OF 'telecinelaw01.FilmRound'. -/
def filmRoundUptoCard : Claim7 := { stood := { row := filmRoundUptoRow, standIns := [], harness := (true, "4c26fcf74c310a378e6ebbb66de799e81f97655ce4d4ad11c7077e440c34aac6"), looks := true }, kinds := [], alts := [], laidByText := true, laidKinds := [.data, .data, .data, .data, .sentinel, .sentinel, .data, .data, .pinned], laidTests := true, laidLooks := .later }
def FilmRoundUptoCardSaid : Prop := Claim7.holds Tryz.pinned (.plain (OpenSpec.upto filmRoundSpec)) filmRoundUptoCard

/-- THE SECOND FORM's CARD OF 'telecinelaw01.FilmKnown'. -/
def filmKnownUptoCard : Claim7 := { stood := { row := filmKnownUptoRow, standIns := [], harness := (true, "4c26fcf74c310a378e6ebbb66de799e81f97655ce4d4ad11c7077e440c34aac6"), looks := true }, kinds := [], alts := [], laidByText := true, laidKinds := [.data, .data, .data, .data, .data, .data, .pinned], laidTests := true, laidLooks := .later }
def FilmKnownUptoCardSaid : Prop := Claim7.holds Tryz.pinned (.plain (OpenSpec.upto filmKnownSpec)) filmKnownUptoCard
end Rows
end Go.Proofs.YtgjpbffoalldkaaGreatDoor
