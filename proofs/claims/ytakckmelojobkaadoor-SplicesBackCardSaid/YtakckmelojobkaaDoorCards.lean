/-
  DERIVED. GIVEN WITH THE SEED: THE CARDS: each row of YtakckmelojobkaaDoorRows.lean that lists a variable, with what it lists TIED to the program's text (the seventh form; the later family's looks); each row that meets fmt, with fmt's text TOLD by the authors' own Lean function (tested against real Go, not proved from fmt's source: count such statements apart). THE CARD IS WHAT COUNTS. Prove the row's statement (the work); the ties are given (YtakckmelojobkaaDoorTie.lean); close each card by the builder's one call (the guide's Derived/Test/ToyasCard.lean, 'card_holds'). Laid BY PROGRAM, IN A SANDBOX (cutbox-door.mjs). By AI agents, Wed Nov 11 2026. No macro, syntax, notation, axiom, sorry.
-/
import Derived.Test.YtakckmelojobkaaDoorRows
import GoSem.ClaimSeven
namespace Go.Proofs.YtakckmelojobkaaDoor
namespace Rows

/-- THE TIED CARD OF 'inkhornlaw15.SplicesApply'. -/
def splicesApplyCard : Claim7 := { stood := { row := splicesApplyRow, standIns := [], harness := (true, "60688c51eea7aecaae17696fb06d9beccc2bb1628120f351711e3808e20c9557"), looks := true }, kinds := [], alts := [], laidByText := true, laidKinds := [.data, .data, .data], laidTests := true, laidLooks := .later }
def SplicesApplyCardSaid : Prop := Claim7.holds Tryd.pinned (.plain (OpenSpec.ofChange splicesApplySpec)) splicesApplyCard

/-- THE TIED CARD OF 'inkhornlaw15.SplicesAll'. -/
def splicesAllCard : Claim7 := { stood := { row := splicesAllRow, standIns := [], harness := (true, "60688c51eea7aecaae17696fb06d9beccc2bb1628120f351711e3808e20c9557"), looks := true }, kinds := [], alts := [], laidByText := true, laidKinds := [.data, .data, .data], laidTests := true, laidLooks := .later }
def SplicesAllCardSaid : Prop := Claim7.holds Tryd.pinned (.plain (OpenSpec.ofChange splicesAllSpec)) splicesAllCard

/-- THE TIED CARD OF 'inkhornlaw15.SplicesBack'. -/
def splicesBackCard : Claim7 := { stood := { row := splicesBackRow, standIns := [], harness := (true, "60688c51eea7aecaae17696fb06d9beccc2bb1628120f351711e3808e20c9557"), looks := true }, kinds := [], alts := [], laidByText := true, laidKinds := [.data, .data, .data], laidTests := true, laidLooks := .later }
def SplicesBackCardSaid : Prop := Claim7.holds Tryd.pinned (.plain (OpenSpec.ofChange splicesBackSpec)) splicesBackCard

/-- THE TIED CARD OF 'inkhornlaw15.SplicesParts'. -/
def splicesPartsCard : Claim7 := { stood := { row := splicesPartsRow, standIns := [], harness := (true, "60688c51eea7aecaae17696fb06d9beccc2bb1628120f351711e3808e20c9557"), looks := true }, kinds := [], alts := [], laidByText := true, laidKinds := [.data, .data, .data], laidTests := true, laidLooks := .later }
def SplicesPartsCardSaid : Prop := Claim7.holds Tryd.pinned (.plain (OpenSpec.ofChange splicesPartsSpec)) splicesPartsCard

/-- THE TIED CARD OF 'inkhornlaw15.SplicesPieces'. -/
def splicesPiecesCard : Claim7 := { stood := { row := splicesPiecesRow, standIns := [], harness := (true, "60688c51eea7aecaae17696fb06d9beccc2bb1628120f351711e3808e20c9557"), looks := true }, kinds := [], alts := [], laidByText := true, laidKinds := [.data, .data, .data], laidTests := true, laidLooks := .later }
def SplicesPiecesCardSaid : Prop := Claim7.holds Tryd.pinned (.plain (OpenSpec.ofChange splicesPiecesSpec)) splicesPiecesCard

/-- THE TIED CARD OF 'inkhornlaw15.SplicesForm'. -/
def splicesFormCard : Claim7 := { stood := { row := splicesFormRow, standIns := [], harness := (true, "60688c51eea7aecaae17696fb06d9beccc2bb1628120f351711e3808e20c9557"), looks := true }, kinds := [], alts := [], laidByText := true, laidKinds := [.data, .data, .data, .sentinel, .sentinel], laidTests := true, laidLooks := .later }
def SplicesFormCardSaid : Prop := Claim7.holds Tryd.pinned (.plain (OpenSpec.ofChange splicesFormSpec)) splicesFormCard

/-- THE SECOND FORM's CARD OF 'inkhornlaw15.SplicesApply'. -/
def splicesApplyUptoCard : Claim7 := { stood := { row := splicesApplyUptoRow, standIns := [], harness := (true, "60688c51eea7aecaae17696fb06d9beccc2bb1628120f351711e3808e20c9557"), looks := true }, kinds := [], alts := [], laidByText := true, laidKinds := [.data, .data, .data], laidTests := true, laidLooks := .later }
def SplicesApplyUptoCardSaid : Prop := Claim7.holds Tryd.pinned (.plain (OpenSpec.upto splicesApplySpec)) splicesApplyUptoCard

/-- THE SECOND FORM's CARD OF 'inkhornlaw15.SplicesAll'. -/
def splicesAllUptoCard : Claim7 := { stood := { row := splicesAllUptoRow, standIns := [], harness := (true, "60688c51eea7aecaae17696fb06d9beccc2bb1628120f351711e3808e20c9557"), looks := true }, kinds := [], alts := [], laidByText := true, laidKinds := [.data, .data, .data], laidTests := true, laidLooks := .later }
def SplicesAllUptoCardSaid : Prop := Claim7.holds Tryd.pinned (.plain (OpenSpec.upto splicesAllSpec)) splicesAllUptoCard

/-- THE SECOND FORM's CARD OF 'inkhornlaw15.SplicesBack'. -/
def splicesBackUptoCard : Claim7 := { stood := { row := splicesBackUptoRow, standIns := [], harness := (true, "60688c51eea7aecaae17696fb06d9beccc2bb1628120f351711e3808e20c9557"), looks := true }, kinds := [], alts := [], laidByText := true, laidKinds := [.data, .data, .data], laidTests := true, laidLooks := .later }
def SplicesBackUptoCardSaid : Prop := Claim7.holds Tryd.pinned (.plain (OpenSpec.upto splicesBackSpec)) splicesBackUptoCard

/-- THE SECOND FORM's CARD OF 'inkhornlaw15.SplicesParts'. -/
def splicesPartsUptoCard : Claim7 := { stood := { row := splicesPartsUptoRow, standIns := [], harness := (true, "60688c51eea7aecaae17696fb06d9beccc2bb1628120f351711e3808e20c9557"), looks := true }, kinds := [], alts := [], laidByText := true, laidKinds := [.data, .data, .data], laidTests := true, laidLooks := .later }
def SplicesPartsUptoCardSaid : Prop := Claim7.holds Tryd.pinned (.plain (OpenSpec.upto splicesPartsSpec)) splicesPartsUptoCard

/-- THE SECOND FORM's CARD OF 'inkhornlaw15.SplicesPieces'. -/
def splicesPiecesUptoCard : Claim7 := { stood := { row := splicesPiecesUptoRow, standIns := [], harness := (true, "60688c51eea7aecaae17696fb06d9beccc2bb1628120f351711e3808e20c9557"), looks := true }, kinds := [], alts := [], laidByText := true, laidKinds := [.data, .data, .data], laidTests := true, laidLooks := .later }
def SplicesPiecesUptoCardSaid : Prop := Claim7.holds Tryd.pinned (.plain (OpenSpec.upto splicesPiecesSpec)) splicesPiecesUptoCard

/-- THE SECOND FORM's CARD OF 'inkhornlaw15.SplicesForm'. -/
def splicesFormUptoCard : Claim7 := { stood := { row := splicesFormUptoRow, standIns := [], harness := (true, "60688c51eea7aecaae17696fb06d9beccc2bb1628120f351711e3808e20c9557"), looks := true }, kinds := [], alts := [], laidByText := true, laidKinds := [.data, .data, .data, .sentinel, .sentinel], laidTests := true, laidLooks := .later }
def SplicesFormUptoCardSaid : Prop := Claim7.holds Tryd.pinned (.plain (OpenSpec.upto splicesFormSpec)) splicesFormUptoCard
end Rows
end Go.Proofs.YtakckmelojobkaaDoor
