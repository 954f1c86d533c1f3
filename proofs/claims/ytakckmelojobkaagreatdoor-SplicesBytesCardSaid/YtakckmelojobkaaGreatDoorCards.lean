/-
  DERIVED. GIVEN WITH THE SEED: THE CARDS: each row of YtakckmelojobkaaGreatDoorRows.lean that lists a variable, with what it lists TIED to the program's text (the seventh form; the later family's looks); each row that meets fmt, with fmt's text TOLD by the authors' own Lean function (tested against real Go, not proved from fmt's source: count such statements apart). THE CARD IS WHAT COUNTS. Prove the row's statement (the work); the ties are given (YtakckmelojobkaaGreatDoorTie.lean); close each card by the builder's one call (the guide's Derived/Test/ToyasCard.lean, 'card_holds'). Laid BY PROGRAM, IN A SANDBOX (cutbox-door.mjs). By AI agents, Wed Nov 11 2026. No macro, syntax, notation, axiom, sorry.
-/
import Derived.Test.YtakckmelojobkaaGreatDoorRows
import GoSem.ClaimSeven
namespace Go.Proofs.YtakckmelojobkaaGreatDoor
namespace Rows

/-- THE TIED CARD OF 'inkhornlaw15.SplicesBytes'. -/
def splicesBytesCard : Claim7 := { stood := { row := splicesBytesRow, standIns := [], harness := (true, "20feaf686826d4dabc87051bcd407d8d9acc68c6a76a86aeed4ef6f5c0248a35"), looks := true }, kinds := [], alts := [], laidByText := true, laidKinds := [.data, .data, .data, .sentinel, .sentinel], laidTests := true, laidLooks := .later }
def SplicesBytesCardSaid : Prop := Claim7.holds Tryz.pinned (.plain (OpenSpec.ofChange splicesBytesSpec)) splicesBytesCard

/-- THE SECOND FORM's CARD OF 'inkhornlaw15.SplicesBytes'. -/
def splicesBytesUptoCard : Claim7 := { stood := { row := splicesBytesUptoRow, standIns := [], harness := (true, "20feaf686826d4dabc87051bcd407d8d9acc68c6a76a86aeed4ef6f5c0248a35"), looks := true }, kinds := [], alts := [], laidByText := true, laidKinds := [.data, .data, .data, .sentinel, .sentinel], laidTests := true, laidLooks := .later }
def SplicesBytesUptoCardSaid : Prop := Claim7.holds Tryz.pinned (.plain (OpenSpec.upto splicesBytesSpec)) splicesBytesUptoCard
end Rows
end Go.Proofs.YtakckmelojobkaaGreatDoor
