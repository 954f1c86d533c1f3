/-
  DERIVED. GIVEN WITH THE SEED: THE CARDS: each row of YtdcdiniplomnkaaDoorRows.lean that lists a variable, with what it lists TIED to the program's text (the seventh form; the later family's looks); each row that meets fmt, with fmt's text TOLD by the authors' own Lean function (tested against real Go, not proved from fmt's source: count such statements apart). THE CARD IS WHAT COUNTS. Prove the row's statement (the work); the ties are given (YtdcdiniplomnkaaDoorTie.lean); close each card by the builder's one call (the guide's Derived/Test/ToyasCard.lean, 'card_holds'). Laid BY PROGRAM, IN A SANDBOX (cutbox-door.mjs). By AI agents, Wed Nov 11 2026. No macro, syntax, notation, axiom, sorry.
-/
import Derived.Test.YtdcdiniplomnkaaDoorRows
import GoSem.ClaimSeven
namespace Go.Proofs.YtdcdiniplomnkaaDoor
namespace Rows

/-- THE TIED CARD OF 'inkhornlaw03.SumsWeigh'. -/
def sumsWeighCard : Claim7 := { stood := { row := sumsWeighRow, standIns := [], harness := (true, "276849da716ef96cd344ef5a295050fc2b4733f8d5d07d4a3052d8e461c2d0a5"), looks := false }, kinds := [], alts := [], laidByText := true, laidKinds := [.data, .data, .data], laidTests := true, laidLooks := .later }
def SumsWeighCardSaid : Prop := Claim7.holds Tryd.pinned (.plain (OpenSpec.ofChange sumsWeighSpec)) sumsWeighCard

/-- THE TIED CARD OF 'inkhornlaw03.SumsNumbers'. -/
def sumsNumbersCard : Claim7 := { stood := { row := sumsNumbersRow, standIns := [], harness := (true, "276849da716ef96cd344ef5a295050fc2b4733f8d5d07d4a3052d8e461c2d0a5"), looks := false }, kinds := [], alts := [], laidByText := true, laidKinds := [.data, .data, .data], laidTests := true, laidLooks := .later }
def SumsNumbersCardSaid : Prop := Claim7.holds Tryd.pinned (.plain (OpenSpec.ofChange sumsNumbersSpec)) sumsNumbersCard

/-- THE TIED CARD OF 'inkhornlaw03.SumsJournal'. -/
def sumsJournalCard : Claim7 := { stood := { row := sumsJournalRow, standIns := [], harness := (true, "276849da716ef96cd344ef5a295050fc2b4733f8d5d07d4a3052d8e461c2d0a5"), looks := false }, kinds := [], alts := [], laidByText := true, laidKinds := [.data, .data, .data], laidTests := true, laidLooks := .later }
def SumsJournalCardSaid : Prop := Claim7.holds Tryd.pinned (.plain (OpenSpec.ofChange sumsJournalSpec)) sumsJournalCard

/-- THE TIED CARD OF 'inkhornlaw03.SumsDiffer'. -/
def sumsDifferCard : Claim7 := { stood := { row := sumsDifferRow, standIns := [], harness := (true, "276849da716ef96cd344ef5a295050fc2b4733f8d5d07d4a3052d8e461c2d0a5"), looks := false }, kinds := [], alts := [], laidByText := true, laidKinds := [.data, .data, .data], laidTests := true, laidLooks := .later }
def SumsDifferCardSaid : Prop := Claim7.holds Tryd.pinned (.plain (OpenSpec.ofChange sumsDifferSpec)) sumsDifferCard

/-- THE TIED CARD OF 'inkhornlaw03.SumsNoughts'. -/
def sumsNoughtsCard : Claim7 := { stood := { row := sumsNoughtsRow, standIns := [], harness := (true, "276849da716ef96cd344ef5a295050fc2b4733f8d5d07d4a3052d8e461c2d0a5"), looks := false }, kinds := [], alts := [], laidByText := true, laidKinds := [.data, .data, .data], laidTests := true, laidLooks := .later }
def SumsNoughtsCardSaid : Prop := Claim7.holds Tryd.pinned (.plain (OpenSpec.ofChange sumsNoughtsSpec)) sumsNoughtsCard

/-- THE TIED CARD OF 'inkhornlaw03.SumsRound'. -/
def sumsRoundCard : Claim7 := { stood := { row := sumsRoundRow, standIns := [], harness := (true, "276849da716ef96cd344ef5a295050fc2b4733f8d5d07d4a3052d8e461c2d0a5"), looks := false }, kinds := [], alts := [], laidByText := true, laidKinds := [.data, .data, .data], laidTests := true, laidLooks := .later }
def SumsRoundCardSaid : Prop := Claim7.holds Tryd.pinned (.plain (OpenSpec.ofChange sumsRoundSpec)) sumsRoundCard

/-- THE TIED CARD OF 'inkhornlaw03.SumsRead'. -/
def sumsReadCard : Claim7 := { stood := { row := sumsReadRow, standIns := [], harness := (true, "276849da716ef96cd344ef5a295050fc2b4733f8d5d07d4a3052d8e461c2d0a5"), looks := false }, kinds := [], alts := [], laidByText := true, laidKinds := [.data, .data, .data], laidTests := true, laidLooks := .later }
def SumsReadCardSaid : Prop := Claim7.holds Tryd.pinned (.plain (OpenSpec.ofChange sumsReadSpec)) sumsReadCard

/-- THE SECOND FORM's CARD OF 'inkhornlaw03.SumsWeigh'. -/
def sumsWeighUptoCard : Claim7 := { stood := { row := sumsWeighUptoRow, standIns := [], harness := (true, "276849da716ef96cd344ef5a295050fc2b4733f8d5d07d4a3052d8e461c2d0a5"), looks := false }, kinds := [], alts := [], laidByText := true, laidKinds := [.data, .data, .data], laidTests := true, laidLooks := .later }
def SumsWeighUptoCardSaid : Prop := Claim7.holds Tryd.pinned (.plain (OpenSpec.upto sumsWeighSpec)) sumsWeighUptoCard

/-- THE SECOND FORM's CARD OF 'inkhornlaw03.SumsNumbers'. -/
def sumsNumbersUptoCard : Claim7 := { stood := { row := sumsNumbersUptoRow, standIns := [], harness := (true, "276849da716ef96cd344ef5a295050fc2b4733f8d5d07d4a3052d8e461c2d0a5"), looks := false }, kinds := [], alts := [], laidByText := true, laidKinds := [.data, .data, .data], laidTests := true, laidLooks := .later }
def SumsNumbersUptoCardSaid : Prop := Claim7.holds Tryd.pinned (.plain (OpenSpec.upto sumsNumbersSpec)) sumsNumbersUptoCard

/-- THE SECOND FORM's CARD OF 'inkhornlaw03.SumsJournal'. -/
def sumsJournalUptoCard : Claim7 := { stood := { row := sumsJournalUptoRow, standIns := [], harness := (true, "276849da716ef96cd344ef5a295050fc2b4733f8d5d07d4a3052d8e461c2d0a5"), looks := false }, kinds := [], alts := [], laidByText := true, laidKinds := [.data, .data, .data], laidTests := true, laidLooks := .later }
def SumsJournalUptoCardSaid : Prop := Claim7.holds Tryd.pinned (.plain (OpenSpec.upto sumsJournalSpec)) sumsJournalUptoCard

/-- THE SECOND FORM's CARD OF 'inkhornlaw03.SumsDiffer'. -/
def sumsDifferUptoCard : Claim7 := { stood := { row := sumsDifferUptoRow, standIns := [], harness := (true, "276849da716ef96cd344ef5a295050fc2b4733f8d5d07d4a3052d8e461c2d0a5"), looks := false }, kinds := [], alts := [], laidByText := true, laidKinds := [.data, .data, .data], laidTests := true, laidLooks := .later }
def SumsDifferUptoCardSaid : Prop := Claim7.holds Tryd.pinned (.plain (OpenSpec.upto sumsDifferSpec)) sumsDifferUptoCard

/-- THE SECOND FORM's CARD OF 'inkhornlaw03.SumsNoughts'. -/
def sumsNoughtsUptoCard : Claim7 := { stood := { row := sumsNoughtsUptoRow, standIns := [], harness := (true, "276849da716ef96cd344ef5a295050fc2b4733f8d5d07d4a3052d8e461c2d0a5"), looks := false }, kinds := [], alts := [], laidByText := true, laidKinds := [.data, .data, .data], laidTests := true, laidLooks := .later }
def SumsNoughtsUptoCardSaid : Prop := Claim7.holds Tryd.pinned (.plain (OpenSpec.upto sumsNoughtsSpec)) sumsNoughtsUptoCard

/-- THE SECOND FORM's CARD OF 'inkhornlaw03.SumsRound'. -/
def sumsRoundUptoCard : Claim7 := { stood := { row := sumsRoundUptoRow, standIns := [], harness := (true, "276849da716ef96cd344ef5a295050fc2b4733f8d5d07d4a3052d8e461c2d0a5"), looks := false }, kinds := [], alts := [], laidByText := true, laidKinds := [.data, .data, .data], laidTests := true, laidLooks := .later }
def SumsRoundUptoCardSaid : Prop := Claim7.holds Tryd.pinned (.plain (OpenSpec.upto sumsRoundSpec)) sumsRoundUptoCard

/-- THE SECOND FORM's CARD OF 'inkhornlaw03.SumsRead'. -/
def sumsReadUptoCard : Claim7 := { stood := { row := sumsReadUptoRow, standIns := [], harness := (true, "276849da716ef96cd344ef5a295050fc2b4733f8d5d07d4a3052d8e461c2d0a5"), looks := false }, kinds := [], alts := [], laidByText := true, laidKinds := [.data, .data, .data], laidTests := true, laidLooks := .later }
def SumsReadUptoCardSaid : Prop := Claim7.holds Tryd.pinned (.plain (OpenSpec.upto sumsReadSpec)) sumsReadUptoCard
end Rows
end Go.Proofs.YtdcdiniplomnkaaDoor
