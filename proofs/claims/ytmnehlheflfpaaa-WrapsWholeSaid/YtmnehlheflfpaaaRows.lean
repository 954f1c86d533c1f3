/-
  No cell of these rows narrows 'for every input' (looked for: loops, veiled, ifaces, maps, wideKeys, modest, calm, conditions, laid).
  DERIVED. THE GIVEN ROWS OF THIS SEAT. 6 by the template 'for every input the law returns true; each argument reads behind the call as it read before'; 0 by the template 'total and deterministic' (their statements: YtmnehlheflfpaaaTotals.lean).
  GIVEN WITH THE SEED: the statements are not yours to turn. If you find one false, say at which input.
  Laid BY PROGRAM, IN A SANDBOX (cutbox-rows.mjs): the forced cells as the released guide's own fill.sh prints them over the translation 383463d13b18e3af… (all of the seat's roots in one cut). By AI agents, Wed Nov 11 2026. No macro, syntax, notation, axiom, sorry.
-/
import Derived.Test.YtmnehlheflfpaaaChecked
import GoSem.Claim
import GoSem.ClaimJoined
import GoSem.ClaimMapViews
import Derived.JoinedTies
import Derived.KernelRfl
namespace Go.Proofs.Ytmnehlheflfpaaa
/- THE CELL 'sum', in the pinned program and in every row, IS THE sha256 OF THE DUMP (.gsa) THAT YtmnehlheflfpaaaProg.lean LOADS. Nothing in Lean hashes anything: it is a label: what it is worth is what the hold of that sum in a sandbox is worth. -/
noncomputable def Try.pinned : Pinned := { name := "ytmnehlheflfpaaa", sum := "383463d13b18e3af5fcb5904579bdf97eabcaefd50fd6209d17a0593314f84d0", checked := Try.checked }
namespace Rows
def none {H : Type} : Left H := { results := [], args := [] }

/-- 'inkhornlaw14.WrapsCells': WHATEVER THE INPUT: true; the input reads as it did. -/
def wrapsCellsSpec : ChangeSpec := { name := "wrapsCells", fn := fun _ => fun
  | [d] => { results := [.lit (.bool true)], args := [d] }
  | _ => none }
def wrapsCellsRow : OpenClaim := { program := "ytmnehlheflfpaaa", sum := "383463d13b18e3af5fcb5904579bdf97eabcaefd50fd6209d17a0593314f84d0", func := "inkhorn/inkhornlaw14.WrapsCells", spec := "wrapsCells", apart := false }
def WrapsCellsSaid : Prop := wrapsCellsRow.holds Try.pinned (OpenSpec.ofChange wrapsCellsSpec)

/-- ITS FALSE NEIGHBOUR: 'it returns false'. Refute it at one input. -/
def wrapsCellsWrong : ChangeSpec := { name := "wrapsCells", fn := fun _ => fun
  | [d] => { results := [.lit (.bool false)], args := [d] }
  | _ => none }
def WrapsCellsWrongFalsely : Prop := wrapsCellsRow.holds Try.pinned (OpenSpec.ofChange wrapsCellsWrong)

/-- 'inkhornlaw14.WrapsRows': WHATEVER THE INPUT: true; the input reads as it did. -/
def wrapsRowsSpec : ChangeSpec := { name := "wrapsRows", fn := fun _ => fun
  | [d1, d2, d3] => { results := [.lit (.bool true)], args := [d1, d2, d3] }
  | _ => none }
def wrapsRowsRow : OpenClaim := { program := "ytmnehlheflfpaaa", sum := "383463d13b18e3af5fcb5904579bdf97eabcaefd50fd6209d17a0593314f84d0", func := "inkhorn/inkhornlaw14.WrapsRows", spec := "wrapsRows", apart := false }
def WrapsRowsSaid : Prop := wrapsRowsRow.holds Try.pinned (OpenSpec.ofChange wrapsRowsSpec)

/-- ITS FALSE NEIGHBOUR: 'it returns false'. Refute it at one input. -/
def wrapsRowsWrong : ChangeSpec := { name := "wrapsRows", fn := fun _ => fun
  | [d1, d2, d3] => { results := [.lit (.bool false)], args := [d1, d2, d3] }
  | _ => none }
def WrapsRowsWrongFalsely : Prop := wrapsRowsRow.holds Try.pinned (OpenSpec.ofChange wrapsRowsWrong)

/-- 'inkhornlaw14.WrapsWhole': WHATEVER THE INPUT: true; the input reads as it did. -/
def wrapsWholeSpec : ChangeSpec := { name := "wrapsWhole", fn := fun _ => fun
  | [d1, d2] => { results := [.lit (.bool true)], args := [d1, d2] }
  | _ => none }
def wrapsWholeRow : OpenClaim := { program := "ytmnehlheflfpaaa", sum := "383463d13b18e3af5fcb5904579bdf97eabcaefd50fd6209d17a0593314f84d0", func := "inkhorn/inkhornlaw14.WrapsWhole", spec := "wrapsWhole", apart := false }
def WrapsWholeSaid : Prop := wrapsWholeRow.holds Try.pinned (OpenSpec.ofChange wrapsWholeSpec)

/-- ITS FALSE NEIGHBOUR: 'it returns false'. Refute it at one input. -/
def wrapsWholeWrong : ChangeSpec := { name := "wrapsWhole", fn := fun _ => fun
  | [d1, d2] => { results := [.lit (.bool false)], args := [d1, d2] }
  | _ => none }
def WrapsWholeWrongFalsely : Prop := wrapsWholeRow.holds Try.pinned (OpenSpec.ofChange wrapsWholeWrong)

/-- 'inkhornlaw14.WrapsPlaces': WHATEVER THE INPUT: true; the input reads as it did. -/
def wrapsPlacesSpec : ChangeSpec := { name := "wrapsPlaces", fn := fun _ => fun
  | [d] => { results := [.lit (.bool true)], args := [d] }
  | _ => none }
def wrapsPlacesRow : OpenClaim := { program := "ytmnehlheflfpaaa", sum := "383463d13b18e3af5fcb5904579bdf97eabcaefd50fd6209d17a0593314f84d0", func := "inkhorn/inkhornlaw14.WrapsPlaces", spec := "wrapsPlaces", apart := false }
def WrapsPlacesSaid : Prop := wrapsPlacesRow.holds Try.pinned (OpenSpec.ofChange wrapsPlacesSpec)

/-- ITS FALSE NEIGHBOUR: 'it returns false'. Refute it at one input. -/
def wrapsPlacesWrong : ChangeSpec := { name := "wrapsPlaces", fn := fun _ => fun
  | [d] => { results := [.lit (.bool false)], args := [d] }
  | _ => none }
def WrapsPlacesWrongFalsely : Prop := wrapsPlacesRow.holds Try.pinned (OpenSpec.ofChange wrapsPlacesWrong)

/-- 'inkhornlaw14.WrapsAhead': WHATEVER THE INPUT: true; the input reads as it did. -/
def wrapsAheadSpec : ChangeSpec := { name := "wrapsAhead", fn := fun _ => fun
  | [d1, d2, d3] => { results := [.lit (.bool true)], args := [d1, d2, d3] }
  | _ => none }
def wrapsAheadRow : OpenClaim := { program := "ytmnehlheflfpaaa", sum := "383463d13b18e3af5fcb5904579bdf97eabcaefd50fd6209d17a0593314f84d0", func := "inkhorn/inkhornlaw14.WrapsAhead", spec := "wrapsAhead", apart := false }
def WrapsAheadSaid : Prop := wrapsAheadRow.holds Try.pinned (OpenSpec.ofChange wrapsAheadSpec)

/-- ITS FALSE NEIGHBOUR: 'it returns false'. Refute it at one input. -/
def wrapsAheadWrong : ChangeSpec := { name := "wrapsAhead", fn := fun _ => fun
  | [d1, d2, d3] => { results := [.lit (.bool false)], args := [d1, d2, d3] }
  | _ => none }
def WrapsAheadWrongFalsely : Prop := wrapsAheadRow.holds Try.pinned (OpenSpec.ofChange wrapsAheadWrong)

/-- 'inkhornlaw14.WrapsCursor': WHATEVER THE INPUT: true; the input reads as it did. -/
def wrapsCursorSpec : ChangeSpec := { name := "wrapsCursor", fn := fun _ => fun
  | [d1, d2, d3] => { results := [.lit (.bool true)], args := [d1, d2, d3] }
  | _ => none }
def wrapsCursorRow : OpenClaim := { program := "ytmnehlheflfpaaa", sum := "383463d13b18e3af5fcb5904579bdf97eabcaefd50fd6209d17a0593314f84d0", func := "inkhorn/inkhornlaw14.WrapsCursor", spec := "wrapsCursor", apart := false }
def WrapsCursorSaid : Prop := wrapsCursorRow.holds Try.pinned (OpenSpec.ofChange wrapsCursorSpec)

/-- ITS FALSE NEIGHBOUR: 'it returns false'. Refute it at one input. -/
def wrapsCursorWrong : ChangeSpec := { name := "wrapsCursor", fn := fun _ => fun
  | [d1, d2, d3] => { results := [.lit (.bool false)], args := [d1, d2, d3] }
  | _ => none }
def WrapsCursorWrongFalsely : Prop := wrapsCursorRow.holds Try.pinned (OpenSpec.ofChange wrapsCursorWrong)

/- THE SECOND FORM. 'bulk': how many values and letters a reading holds, each counted each time it is reached (what is shared counts as often as it is met; a slice's spare places count too). A statement '..UptoSaid' is the law's where the arguments, and the package variables that the reading takes, are together of bulk at most 1048576: NARROWER than '..Said'. Prove '..Said' where nothing that the law and all that it calls make is longer than what came in: it says more and counts as full. Else prove '..UptoSaid'. A law counts once. -/
mutual
def uptoBulk {H : Type} : DataW H → Nat
  | .lit (.string bytes) => bytes.length + 1
  | .lit _ => 1
  | .nil => 1
  | .ptr d => uptoBulk d + 1
  | .slice elems spare => uptoBulkAll elems + uptoBulkAll spare + 1
  | .agg parts => uptoBulkAll parts + 1
  | .iface _ d => uptoBulk d + 1
  | .map entries => uptoBulkEntries entries + 1
  | .held _ => 1
def uptoBulkAll {H : Type} : List (DataW H) → Nat
  | [] => 0
  | d :: r => uptoBulk d + uptoBulkAll r
def uptoBulkEntries {H : Type} : List (Lit × DataW H) → Nat
  | [] => 0
  | x :: r => uptoBulkEntry x + uptoBulkEntries r
def uptoBulkEntry {H : Type} : Lit × DataW H → Nat
  | (.string bytes, d) => bytes.length + uptoBulk d + 1
  | (_, d) => uptoBulk d + 1
 end
def uptoSmall : (H : Type) → List (DataW H) → Bool := fun _ ds => decide (uptoBulkAll ds ≤ 1048576)
def OpenSpec.upto (s : _root_.Go.ChangeSpec) : _root_.Go.OpenSpec := { _root_.Go.OpenSpec.ofChange s with cond := some uptoSmall }

/-- 'inkhornlaw14.WrapsCells', WHERE WHAT IT READS IS OF BULK AT MOST 1048576: true; the input reads as it did. -/
def wrapsCellsUptoRow : OpenClaim := { program := "ytmnehlheflfpaaa", sum := "383463d13b18e3af5fcb5904579bdf97eabcaefd50fd6209d17a0593314f84d0", func := "inkhorn/inkhornlaw14.WrapsCells", spec := "wrapsCells", apart := false, narrowed := true }
def WrapsCellsUptoSaid : Prop := wrapsCellsUptoRow.holds Try.pinned (OpenSpec.upto wrapsCellsSpec)

/-- 'inkhornlaw14.WrapsRows', WHERE WHAT IT READS IS OF BULK AT MOST 1048576: true; the input reads as it did. -/
def wrapsRowsUptoRow : OpenClaim := { program := "ytmnehlheflfpaaa", sum := "383463d13b18e3af5fcb5904579bdf97eabcaefd50fd6209d17a0593314f84d0", func := "inkhorn/inkhornlaw14.WrapsRows", spec := "wrapsRows", apart := false, narrowed := true }
def WrapsRowsUptoSaid : Prop := wrapsRowsUptoRow.holds Try.pinned (OpenSpec.upto wrapsRowsSpec)

/-- 'inkhornlaw14.WrapsWhole', WHERE WHAT IT READS IS OF BULK AT MOST 1048576: true; the input reads as it did. -/
def wrapsWholeUptoRow : OpenClaim := { program := "ytmnehlheflfpaaa", sum := "383463d13b18e3af5fcb5904579bdf97eabcaefd50fd6209d17a0593314f84d0", func := "inkhorn/inkhornlaw14.WrapsWhole", spec := "wrapsWhole", apart := false, narrowed := true }
def WrapsWholeUptoSaid : Prop := wrapsWholeUptoRow.holds Try.pinned (OpenSpec.upto wrapsWholeSpec)

/-- 'inkhornlaw14.WrapsPlaces', WHERE WHAT IT READS IS OF BULK AT MOST 1048576: true; the input reads as it did. -/
def wrapsPlacesUptoRow : OpenClaim := { program := "ytmnehlheflfpaaa", sum := "383463d13b18e3af5fcb5904579bdf97eabcaefd50fd6209d17a0593314f84d0", func := "inkhorn/inkhornlaw14.WrapsPlaces", spec := "wrapsPlaces", apart := false, narrowed := true }
def WrapsPlacesUptoSaid : Prop := wrapsPlacesUptoRow.holds Try.pinned (OpenSpec.upto wrapsPlacesSpec)

/-- 'inkhornlaw14.WrapsAhead', WHERE WHAT IT READS IS OF BULK AT MOST 1048576: true; the input reads as it did. -/
def wrapsAheadUptoRow : OpenClaim := { program := "ytmnehlheflfpaaa", sum := "383463d13b18e3af5fcb5904579bdf97eabcaefd50fd6209d17a0593314f84d0", func := "inkhorn/inkhornlaw14.WrapsAhead", spec := "wrapsAhead", apart := false, narrowed := true }
def WrapsAheadUptoSaid : Prop := wrapsAheadUptoRow.holds Try.pinned (OpenSpec.upto wrapsAheadSpec)

/-- 'inkhornlaw14.WrapsCursor', WHERE WHAT IT READS IS OF BULK AT MOST 1048576: true; the input reads as it did. -/
def wrapsCursorUptoRow : OpenClaim := { program := "ytmnehlheflfpaaa", sum := "383463d13b18e3af5fcb5904579bdf97eabcaefd50fd6209d17a0593314f84d0", func := "inkhorn/inkhornlaw14.WrapsCursor", spec := "wrapsCursor", apart := false, narrowed := true }
def WrapsCursorUptoSaid : Prop := wrapsCursorUptoRow.holds Try.pinned (OpenSpec.upto wrapsCursorSpec)

end Rows
end Go.Proofs.Ytmnehlheflfpaaa
