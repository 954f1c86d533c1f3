/-
  DERIVED. GIVEN WITH THE SEED: THE CARDS: each row of YtljpclfeogiohaaGreatDoorRows.lean that lists a variable, with what it lists TIED to the program's text (the seventh form; the later family's looks); each row that meets fmt, with fmt's text TOLD by the authors' own Lean function (tested against real Go, not proved from fmt's source: count such statements apart). THE CARD IS WHAT COUNTS. Prove the row's statement (the work); the ties are given (YtljpclfeogiohaaGreatDoorTie.lean); close each card by the builder's one call (the guide's Derived/Test/ToyasCard.lean, 'card_holds'). Laid BY PROGRAM, IN A SANDBOX (cutbox-door.mjs). By AI agents, Wed Nov 11 2026. No macro, syntax, notation, axiom, sorry.
-/
import Derived.Test.YtljpclfeogiohaaGreatDoorRows
import GoSem.ClaimSeven
namespace Go.Proofs.YtljpclfeogiohaaGreatDoor
namespace Rows

/-- THE TIED CARD OF 'inkhornlaw04.FramesMade'. -/
def framesMadeCard : Claim7 := { stood := { row := framesMadeRow, standIns := [], harness := (true, "30087c54e8bdd8c6b25ad72b905ed3bb119140c51563aa426827634be1d4b3a1"), looks := true }, kinds := [], alts := [], laidByText := true, laidKinds := [.data, .data, .data, .handle, .sentinel, .sentinel], laidTests := true, laidLooks := .later }
def FramesMadeCardSaid : Prop := Claim7.holds Tryz.pinned (.plain (OpenSpec.ofChange framesMadeSpec)) framesMadeCard

/-- THE TIED CARD OF 'inkhornlaw04.FramesListed'. -/
def framesListedCard : Claim7 := { stood := { row := framesListedRow, standIns := [], harness := (true, "30087c54e8bdd8c6b25ad72b905ed3bb119140c51563aa426827634be1d4b3a1"), looks := true }, kinds := [], alts := [], laidByText := true, laidKinds := [.data, .data, .data, .handle, .sentinel, .sentinel], laidTests := true, laidLooks := .later }
def FramesListedCardSaid : Prop := Claim7.holds Tryz.pinned (.plain (OpenSpec.ofChange framesListedSpec)) framesListedCard

/-- THE TIED CARD OF 'inkhornlaw04.FramesRebuild'. -/
def framesRebuildCard : Claim7 := { stood := { row := framesRebuildRow, standIns := [], harness := (true, "30087c54e8bdd8c6b25ad72b905ed3bb119140c51563aa426827634be1d4b3a1"), looks := true }, kinds := [], alts := [], laidByText := true, laidKinds := [.data, .data, .data, .handle, .sentinel, .sentinel], laidTests := true, laidLooks := .later }
def FramesRebuildCardSaid : Prop := Claim7.holds Tryz.pinned (.plain (OpenSpec.ofChange framesRebuildSpec)) framesRebuildCard

/-- THE TIED CARD OF 'inkhornlaw04.FramesWalk'. -/
def framesWalkCard : Claim7 := { stood := { row := framesWalkRow, standIns := [], harness := (true, "30087c54e8bdd8c6b25ad72b905ed3bb119140c51563aa426827634be1d4b3a1"), looks := true }, kinds := [], alts := [], laidByText := true, laidKinds := [.data, .data, .data, .handle, .sentinel, .sentinel], laidTests := true, laidLooks := .later }
def FramesWalkCardSaid : Prop := Claim7.holds Tryz.pinned (.plain (OpenSpec.ofChange framesWalkSpec)) framesWalkCard

/-- THE TIED CARD OF 'inkhornlaw04.FramesGrow'. -/
def framesGrowCard : Claim7 := { stood := { row := framesGrowRow, standIns := [], harness := (true, "30087c54e8bdd8c6b25ad72b905ed3bb119140c51563aa426827634be1d4b3a1"), looks := true }, kinds := [], alts := [], laidByText := true, laidKinds := [.data, .data, .data, .handle, .sentinel, .sentinel], laidTests := true, laidLooks := .later }
def FramesGrowCardSaid : Prop := Claim7.holds Tryz.pinned (.plain (OpenSpec.ofChange framesGrowSpec)) framesGrowCard

/-- THE TIED CARD OF 'inkhornlaw04.FramesDrop'. -/
def framesDropCard : Claim7 := { stood := { row := framesDropRow, standIns := [], harness := (true, "30087c54e8bdd8c6b25ad72b905ed3bb119140c51563aa426827634be1d4b3a1"), looks := true }, kinds := [], alts := [], laidByText := true, laidKinds := [.data, .data, .data, .handle, .sentinel, .sentinel], laidTests := true, laidLooks := .later }
def FramesDropCardSaid : Prop := Claim7.holds Tryz.pinned (.plain (OpenSpec.ofChange framesDropSpec)) framesDropCard

/-- THE TIED CARD OF 'inkhornlaw04.FramesLine'. -/
def framesLineCard : Claim7 := { stood := { row := framesLineRow, standIns := [], harness := (true, "30087c54e8bdd8c6b25ad72b905ed3bb119140c51563aa426827634be1d4b3a1"), looks := true }, kinds := [], alts := [], laidByText := true, laidKinds := [.data, .data, .data, .handle, .sentinel, .sentinel], laidTests := true, laidLooks := .later }
def FramesLineCardSaid : Prop := Claim7.holds Tryz.pinned (.plain (OpenSpec.ofChange framesLineSpec)) framesLineCard

/-- THE TIED CARD OF 'inkhornlaw04.FramesLength'. -/
def framesLengthCard : Claim7 := { stood := { row := framesLengthRow, standIns := [], harness := (true, "30087c54e8bdd8c6b25ad72b905ed3bb119140c51563aa426827634be1d4b3a1"), looks := true }, kinds := [], alts := [], laidByText := true, laidKinds := [.data, .data, .data, .handle, .sentinel, .sentinel], laidTests := true, laidLooks := .later }
def FramesLengthCardSaid : Prop := Claim7.holds Tryz.pinned (.plain (OpenSpec.ofChange framesLengthSpec)) framesLengthCard

/-- THE TIED CARD OF 'inkhornlaw04.FramesTurned'. -/
def framesTurnedCard : Claim7 := { stood := { row := framesTurnedRow, standIns := [], harness := (true, "30087c54e8bdd8c6b25ad72b905ed3bb119140c51563aa426827634be1d4b3a1"), looks := true }, kinds := [], alts := [], laidByText := true, laidKinds := [.data, .data, .data, .handle, .sentinel, .sentinel], laidTests := true, laidLooks := .later }
def FramesTurnedCardSaid : Prop := Claim7.holds Tryz.pinned (.plain (OpenSpec.ofChange framesTurnedSpec)) framesTurnedCard

/-- THE SECOND FORM's CARD OF 'inkhornlaw04.FramesMade'. -/
def framesMadeUptoCard : Claim7 := { stood := { row := framesMadeUptoRow, standIns := [], harness := (true, "30087c54e8bdd8c6b25ad72b905ed3bb119140c51563aa426827634be1d4b3a1"), looks := true }, kinds := [], alts := [], laidByText := true, laidKinds := [.data, .data, .data, .handle, .sentinel, .sentinel], laidTests := true, laidLooks := .later }
def FramesMadeUptoCardSaid : Prop := Claim7.holds Tryz.pinned (.plain (OpenSpec.upto framesMadeSpec)) framesMadeUptoCard

/-- THE SECOND FORM's CARD OF 'inkhornlaw04.FramesListed'. -/
def framesListedUptoCard : Claim7 := { stood := { row := framesListedUptoRow, standIns := [], harness := (true, "30087c54e8bdd8c6b25ad72b905ed3bb119140c51563aa426827634be1d4b3a1"), looks := true }, kinds := [], alts := [], laidByText := true, laidKinds := [.data, .data, .data, .handle, .sentinel, .sentinel], laidTests := true, laidLooks := .later }
def FramesListedUptoCardSaid : Prop := Claim7.holds Tryz.pinned (.plain (OpenSpec.upto framesListedSpec)) framesListedUptoCard

/-- THE SECOND FORM's CARD OF 'inkhornlaw04.FramesRebuild'. -/
def framesRebuildUptoCard : Claim7 := { stood := { row := framesRebuildUptoRow, standIns := [], harness := (true, "30087c54e8bdd8c6b25ad72b905ed3bb119140c51563aa426827634be1d4b3a1"), looks := true }, kinds := [], alts := [], laidByText := true, laidKinds := [.data, .data, .data, .handle, .sentinel, .sentinel], laidTests := true, laidLooks := .later }
def FramesRebuildUptoCardSaid : Prop := Claim7.holds Tryz.pinned (.plain (OpenSpec.upto framesRebuildSpec)) framesRebuildUptoCard

/-- THE SECOND FORM's CARD OF 'inkhornlaw04.FramesWalk'. -/
def framesWalkUptoCard : Claim7 := { stood := { row := framesWalkUptoRow, standIns := [], harness := (true, "30087c54e8bdd8c6b25ad72b905ed3bb119140c51563aa426827634be1d4b3a1"), looks := true }, kinds := [], alts := [], laidByText := true, laidKinds := [.data, .data, .data, .handle, .sentinel, .sentinel], laidTests := true, laidLooks := .later }
def FramesWalkUptoCardSaid : Prop := Claim7.holds Tryz.pinned (.plain (OpenSpec.upto framesWalkSpec)) framesWalkUptoCard

/-- THE SECOND FORM's CARD OF 'inkhornlaw04.FramesGrow'. -/
def framesGrowUptoCard : Claim7 := { stood := { row := framesGrowUptoRow, standIns := [], harness := (true, "30087c54e8bdd8c6b25ad72b905ed3bb119140c51563aa426827634be1d4b3a1"), looks := true }, kinds := [], alts := [], laidByText := true, laidKinds := [.data, .data, .data, .handle, .sentinel, .sentinel], laidTests := true, laidLooks := .later }
def FramesGrowUptoCardSaid : Prop := Claim7.holds Tryz.pinned (.plain (OpenSpec.upto framesGrowSpec)) framesGrowUptoCard

/-- THE SECOND FORM's CARD OF 'inkhornlaw04.FramesDrop'. -/
def framesDropUptoCard : Claim7 := { stood := { row := framesDropUptoRow, standIns := [], harness := (true, "30087c54e8bdd8c6b25ad72b905ed3bb119140c51563aa426827634be1d4b3a1"), looks := true }, kinds := [], alts := [], laidByText := true, laidKinds := [.data, .data, .data, .handle, .sentinel, .sentinel], laidTests := true, laidLooks := .later }
def FramesDropUptoCardSaid : Prop := Claim7.holds Tryz.pinned (.plain (OpenSpec.upto framesDropSpec)) framesDropUptoCard

/-- THE SECOND FORM's CARD OF 'inkhornlaw04.FramesLine'. -/
def framesLineUptoCard : Claim7 := { stood := { row := framesLineUptoRow, standIns := [], harness := (true, "30087c54e8bdd8c6b25ad72b905ed3bb119140c51563aa426827634be1d4b3a1"), looks := true }, kinds := [], alts := [], laidByText := true, laidKinds := [.data, .data, .data, .handle, .sentinel, .sentinel], laidTests := true, laidLooks := .later }
def FramesLineUptoCardSaid : Prop := Claim7.holds Tryz.pinned (.plain (OpenSpec.upto framesLineSpec)) framesLineUptoCard

/-- THE SECOND FORM's CARD OF 'inkhornlaw04.FramesLength'. -/
def framesLengthUptoCard : Claim7 := { stood := { row := framesLengthUptoRow, standIns := [], harness := (true, "30087c54e8bdd8c6b25ad72b905ed3bb119140c51563aa426827634be1d4b3a1"), looks := true }, kinds := [], alts := [], laidByText := true, laidKinds := [.data, .data, .data, .handle, .sentinel, .sentinel], laidTests := true, laidLooks := .later }
def FramesLengthUptoCardSaid : Prop := Claim7.holds Tryz.pinned (.plain (OpenSpec.upto framesLengthSpec)) framesLengthUptoCard

/-- THE SECOND FORM's CARD OF 'inkhornlaw04.FramesTurned'. -/
def framesTurnedUptoCard : Claim7 := { stood := { row := framesTurnedUptoRow, standIns := [], harness := (true, "30087c54e8bdd8c6b25ad72b905ed3bb119140c51563aa426827634be1d4b3a1"), looks := true }, kinds := [], alts := [], laidByText := true, laidKinds := [.data, .data, .data, .handle, .sentinel, .sentinel], laidTests := true, laidLooks := .later }
def FramesTurnedUptoCardSaid : Prop := Claim7.holds Tryz.pinned (.plain (OpenSpec.upto framesTurnedSpec)) framesTurnedUptoCard
end Rows
end Go.Proofs.YtljpclfeogiohaaGreatDoor
