/-
  No cell of these rows narrows 'for every input' (looked for: loops, veiled, ifaces, maps, wideKeys, modest, calm, conditions, laid).
  DERIVED. THE GIVEN ROWS OF THIS SEAT. 4 by the template 'for every input the law returns true; each argument reads behind the call as it read before'; 0 by the template 'total and deterministic' (their statements: YtlbhegicapggeaaTotals.lean).
  GIVEN WITH THE SEED: the statements are not yours to turn. If you find one false, say at which input.
  Laid BY PROGRAM, IN A SANDBOX (cutbox-rows.mjs): the forced cells as the released guide's own fill.sh prints them over the translation 1bec394f96813331… (all of the seat's roots in one cut). By AI agents, Wed Nov 11 2026. No macro, syntax, notation, axiom, sorry.
-/
import Derived.Test.YtlbhegicapggeaaChecked
import GoSem.Claim
import GoSem.ClaimJoined
import GoSem.ClaimMapViews
import Derived.JoinedTies
import Derived.KernelRfl
namespace Go.Proofs.Ytlbhegicapggeaa
/- THE CELL 'sum', in the pinned program and in every row, IS THE sha256 OF THE DUMP (.gsa) THAT YtlbhegicapggeaaProg.lean LOADS. Nothing in Lean hashes anything: it is a label: what it is worth is what the hold of that sum in a sandbox is worth. -/
noncomputable def Try.pinned : Pinned := { name := "ytlbhegicapggeaa", sum := "1bec394f968133319d29388aba5028dec58c432cdd27c26ba5591c54c6a7c54a", checked := Try.checked }
namespace Rows
def none {H : Type} : Left H := { results := [], args := [] }

/-- 'inkhornlaw06.SavesNone': WHATEVER THE INPUT: true; the input reads as it did. -/
def savesNoneSpec : ChangeSpec := { name := "savesNone", fn := fun _ => fun
  | [d1, d2] => { results := [.lit (.bool true)], args := [d1, d2] }
  | _ => none }
def savesNoneRow : OpenClaim := { program := "ytlbhegicapggeaa", sum := "1bec394f968133319d29388aba5028dec58c432cdd27c26ba5591c54c6a7c54a", func := "inkhorn/inkhornlaw06.SavesNone", spec := "savesNone", unfollowed := true, recurses := true, apart := false }
def SavesNoneSaid : Prop := savesNoneRow.holds Try.pinned (OpenSpec.ofChange savesNoneSpec)

/-- ITS FALSE NEIGHBOUR: 'it returns false'. Refute it at one input. -/
def savesNoneWrong : ChangeSpec := { name := "savesNone", fn := fun _ => fun
  | [d1, d2] => { results := [.lit (.bool false)], args := [d1, d2] }
  | _ => none }
def SavesNoneWrongFalsely : Prop := savesNoneRow.holds Try.pinned (OpenSpec.ofChange savesNoneWrong)

/-- 'inkhornlaw06.SavesWhole': WHATEVER THE INPUT: true; the input reads as it did. -/
def savesWholeSpec : ChangeSpec := { name := "savesWhole", fn := fun _ => fun
  | [d1, d2, d3] => { results := [.lit (.bool true)], args := [d1, d2, d3] }
  | _ => none }
def savesWholeRow : OpenClaim := { program := "ytlbhegicapggeaa", sum := "1bec394f968133319d29388aba5028dec58c432cdd27c26ba5591c54c6a7c54a", func := "inkhorn/inkhornlaw06.SavesWhole", spec := "savesWhole", unfollowed := true, recurses := true, apart := false }
def SavesWholeSaid : Prop := savesWholeRow.holds Try.pinned (OpenSpec.ofChange savesWholeSpec)

/-- ITS FALSE NEIGHBOUR: 'it returns false'. Refute it at one input. -/
def savesWholeWrong : ChangeSpec := { name := "savesWhole", fn := fun _ => fun
  | [d1, d2, d3] => { results := [.lit (.bool false)], args := [d1, d2, d3] }
  | _ => none }
def SavesWholeWrongFalsely : Prop := savesWholeRow.holds Try.pinned (OpenSpec.ofChange savesWholeWrong)

/-- 'inkhornlaw06.SavesBack': WHATEVER THE INPUT: true; the input reads as it did. -/
def savesBackSpec : ChangeSpec := { name := "savesBack", fn := fun _ => fun
  | [d1, d2, d3] => { results := [.lit (.bool true)], args := [d1, d2, d3] }
  | _ => none }
def savesBackRow : OpenClaim := { program := "ytlbhegicapggeaa", sum := "1bec394f968133319d29388aba5028dec58c432cdd27c26ba5591c54c6a7c54a", func := "inkhorn/inkhornlaw06.SavesBack", spec := "savesBack", unfollowed := true, recurses := true, apart := false }
def SavesBackSaid : Prop := savesBackRow.holds Try.pinned (OpenSpec.ofChange savesBackSpec)

/-- ITS FALSE NEIGHBOUR: 'it returns false'. Refute it at one input. -/
def savesBackWrong : ChangeSpec := { name := "savesBack", fn := fun _ => fun
  | [d1, d2, d3] => { results := [.lit (.bool false)], args := [d1, d2, d3] }
  | _ => none }
def SavesBackWrongFalsely : Prop := savesBackRow.holds Try.pinned (OpenSpec.ofChange savesBackWrong)

/-- 'inkhornlaw06.SavesClean': WHATEVER THE INPUT: true; the input reads as it did. -/
def savesCleanSpec : ChangeSpec := { name := "savesClean", fn := fun _ => fun
  | [d1, d2, d3] => { results := [.lit (.bool true)], args := [d1, d2, d3] }
  | _ => none }
def savesCleanRow : OpenClaim := { program := "ytlbhegicapggeaa", sum := "1bec394f968133319d29388aba5028dec58c432cdd27c26ba5591c54c6a7c54a", func := "inkhorn/inkhornlaw06.SavesClean", spec := "savesClean", unfollowed := true, recurses := true, apart := false }
def SavesCleanSaid : Prop := savesCleanRow.holds Try.pinned (OpenSpec.ofChange savesCleanSpec)

/-- ITS FALSE NEIGHBOUR: 'it returns false'. Refute it at one input. -/
def savesCleanWrong : ChangeSpec := { name := "savesClean", fn := fun _ => fun
  | [d1, d2, d3] => { results := [.lit (.bool false)], args := [d1, d2, d3] }
  | _ => none }
def SavesCleanWrongFalsely : Prop := savesCleanRow.holds Try.pinned (OpenSpec.ofChange savesCleanWrong)

/- THE SECOND FORM. 'bulk': how many values and letters a reading holds, each counted each time it is reached (what is shared counts as often as it is met; a slice's spare places count too). A statement '..UptoSaid' is the law's where the arguments, and the package variables that the reading takes, are together of bulk at most 1048576: NARROWER than '..Said'. Prove '..Said' where nothing that the law and all that it calls make is longer than what came in: it says more and counts as full. Else prove '..UptoSaid'. A law counts once. -/
mutual
def uptoBulk {H : Type} : DataW H → Nat
  | .lit (.string bytes) => bytes.length + 1
  | .lit _ => 1
  | .nil => 1
  | .ptr d => uptoBulk d + 1
  | .slice elems spare => uptoBulkAll elems + uptoBulkAll spare + 1
  | .agg parts => uptoBulkAll parts + 1
  | .iface _ d => uptoBulk d + 1
  | .map entries => uptoBulkEntries entries + 1
  | .held _ => 1
def uptoBulkAll {H : Type} : List (DataW H) → Nat
  | [] => 0
  | d :: r => uptoBulk d + uptoBulkAll r
def uptoBulkEntries {H : Type} : List (Lit × DataW H) → Nat
  | [] => 0
  | x :: r => uptoBulkEntry x + uptoBulkEntries r
def uptoBulkEntry {H : Type} : Lit × DataW H → Nat
  | (.string bytes, d) => bytes.length + uptoBulk d + 1
  | (_, d) => uptoBulk d + 1
 end
def uptoSmall : (H : Type) → List (DataW H) → Bool := fun _ ds => decide (uptoBulkAll ds ≤ 1048576)
def OpenSpec.upto (s : _root_.Go.ChangeSpec) : _root_.Go.OpenSpec := { _root_.Go.OpenSpec.ofChange s with cond := some uptoSmall }

/-- 'inkhornlaw06.SavesNone', WHERE WHAT IT READS IS OF BULK AT MOST 1048576: true; the input reads as it did. -/
def savesNoneUptoRow : OpenClaim := { program := "ytlbhegicapggeaa", sum := "1bec394f968133319d29388aba5028dec58c432cdd27c26ba5591c54c6a7c54a", func := "inkhorn/inkhornlaw06.SavesNone", spec := "savesNone", unfollowed := true, recurses := true, apart := false, narrowed := true }
def SavesNoneUptoSaid : Prop := savesNoneUptoRow.holds Try.pinned (OpenSpec.upto savesNoneSpec)

/-- 'inkhornlaw06.SavesWhole', WHERE WHAT IT READS IS OF BULK AT MOST 1048576: true; the input reads as it did. -/
def savesWholeUptoRow : OpenClaim := { program := "ytlbhegicapggeaa", sum := "1bec394f968133319d29388aba5028dec58c432cdd27c26ba5591c54c6a7c54a", func := "inkhorn/inkhornlaw06.SavesWhole", spec := "savesWhole", unfollowed := true, recurses := true, apart := false, narrowed := true }
def SavesWholeUptoSaid : Prop := savesWholeUptoRow.holds Try.pinned (OpenSpec.upto savesWholeSpec)

/-- 'inkhornlaw06.SavesBack', WHERE WHAT IT READS IS OF BULK AT MOST 1048576: true; the input reads as it did. -/
def savesBackUptoRow : OpenClaim := { program := "ytlbhegicapggeaa", sum := "1bec394f968133319d29388aba5028dec58c432cdd27c26ba5591c54c6a7c54a", func := "inkhorn/inkhornlaw06.SavesBack", spec := "savesBack", unfollowed := true, recurses := true, apart := false, narrowed := true }
def SavesBackUptoSaid : Prop := savesBackUptoRow.holds Try.pinned (OpenSpec.upto savesBackSpec)

/-- 'inkhornlaw06.SavesClean', WHERE WHAT IT READS IS OF BULK AT MOST 1048576: true; the input reads as it did. -/
def savesCleanUptoRow : OpenClaim := { program := "ytlbhegicapggeaa", sum := "1bec394f968133319d29388aba5028dec58c432cdd27c26ba5591c54c6a7c54a", func := "inkhorn/inkhornlaw06.SavesClean", spec := "savesClean", unfollowed := true, recurses := true, apart := false, narrowed := true }
def SavesCleanUptoSaid : Prop := savesCleanUptoRow.holds Try.pinned (OpenSpec.upto savesCleanSpec)

end Rows
end Go.Proofs.Ytlbhegicapggeaa
