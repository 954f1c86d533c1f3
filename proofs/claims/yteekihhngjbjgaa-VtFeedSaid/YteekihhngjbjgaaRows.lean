/-
  No cell of these rows narrows 'for every input' (looked for: loops, veiled, ifaces, maps, wideKeys, modest, calm, conditions, laid).
  DERIVED. THE GIVEN ROWS OF THIS SEAT. 7 by the template 'for every input the law returns true; each argument reads behind the call as it read before'; 0 by the template 'total and deterministic' (their statements: YteekihhngjbjgaaTotals.lean).
  GIVEN WITH THE SEED: the statements are not yours to turn. If you find one false, say at which input.
  Laid BY PROGRAM, IN A SANDBOX (cutbox-rows.mjs): the forced cells as the released guide's own fill.sh prints them over the translation 6cca82798d20ca1a… (all of the seat's roots in one cut). By AI agents, Wed Nov 11 2026. No macro, syntax, notation, axiom, sorry.
-/
import Derived.Test.YteekihhngjbjgaaChecked
import GoSem.Claim
import GoSem.ClaimJoined
import GoSem.ClaimMapViews
import Derived.JoinedTies
import Derived.KernelRfl
namespace Go.Proofs.Yteekihhngjbjgaa
/- THE CELL 'sum', in the pinned program and in every row, IS THE sha256 OF THE DUMP (.gsa) THAT YteekihhngjbjgaaProg.lean LOADS. Nothing in Lean hashes anything: it is a label: what it is worth is what the hold of that sum in a sandbox is worth. -/
noncomputable def Try.pinned : Pinned := { name := "yteekihhngjbjgaa", sum := "6cca82798d20ca1a4596e78b775f5a1804cd611f4fe54757e5fa7d33ebe163fe", checked := Try.checked }
namespace Rows
def none {H : Type} : Left H := { results := [], args := [] }

/-- 'inkhornlaw13.VtFeed': WHATEVER THE INPUT: true; the input reads as it did. -/
def vtFeedSpec : ChangeSpec := { name := "vtFeed", fn := fun _ => fun
  | [d1, d2, d3] => { results := [.lit (.bool true)], args := [d1, d2, d3] }
  | _ => none }
def vtFeedRow : OpenClaim := { program := "yteekihhngjbjgaa", sum := "6cca82798d20ca1a4596e78b775f5a1804cd611f4fe54757e5fa7d33ebe163fe", func := "inkhorn/inkhornlaw13.VtFeed", spec := "vtFeed", inPlace := ["internal/bytealg.MakeNoZero"], unfollowed := true, recurses := true, apart := false }
def VtFeedSaid : Prop := vtFeedRow.holds Try.pinned (OpenSpec.ofChange vtFeedSpec)

/-- ITS FALSE NEIGHBOUR: 'it returns false'. Refute it at one input. -/
def vtFeedWrong : ChangeSpec := { name := "vtFeed", fn := fun _ => fun
  | [d1, d2, d3] => { results := [.lit (.bool false)], args := [d1, d2, d3] }
  | _ => none }
def VtFeedWrongFalsely : Prop := vtFeedRow.holds Try.pinned (OpenSpec.ofChange vtFeedWrong)

/-- 'inkhornlaw13.VtNone': WHATEVER THE INPUT: true; the input reads as it did. -/
def vtNoneSpec : ChangeSpec := { name := "vtNone", fn := fun _ => fun
  | [d] => { results := [.lit (.bool true)], args := [d] }
  | _ => none }
def vtNoneRow : OpenClaim := { program := "yteekihhngjbjgaa", sum := "6cca82798d20ca1a4596e78b775f5a1804cd611f4fe54757e5fa7d33ebe163fe", func := "inkhorn/inkhornlaw13.VtNone", spec := "vtNone", inPlace := ["internal/bytealg.MakeNoZero"], unfollowed := true, recurses := true, apart := false }
def VtNoneSaid : Prop := vtNoneRow.holds Try.pinned (OpenSpec.ofChange vtNoneSpec)

/-- ITS FALSE NEIGHBOUR: 'it returns false'. Refute it at one input. -/
def vtNoneWrong : ChangeSpec := { name := "vtNone", fn := fun _ => fun
  | [d] => { results := [.lit (.bool false)], args := [d] }
  | _ => none }
def VtNoneWrongFalsely : Prop := vtNoneRow.holds Try.pinned (OpenSpec.ofChange vtNoneWrong)

/-- 'inkhornlaw13.VtCut': WHATEVER THE INPUT: true; the input reads as it did. -/
def vtCutSpec : ChangeSpec := { name := "vtCut", fn := fun _ => fun
  | [d1, d2, d3] => { results := [.lit (.bool true)], args := [d1, d2, d3] }
  | _ => none }
def vtCutRow : OpenClaim := { program := "yteekihhngjbjgaa", sum := "6cca82798d20ca1a4596e78b775f5a1804cd611f4fe54757e5fa7d33ebe163fe", func := "inkhorn/inkhornlaw13.VtCut", spec := "vtCut", inPlace := ["internal/bytealg.MakeNoZero"], unfollowed := true, recurses := true, apart := false }
def VtCutSaid : Prop := vtCutRow.holds Try.pinned (OpenSpec.ofChange vtCutSpec)

/-- ITS FALSE NEIGHBOUR: 'it returns false'. Refute it at one input. -/
def vtCutWrong : ChangeSpec := { name := "vtCut", fn := fun _ => fun
  | [d1, d2, d3] => { results := [.lit (.bool false)], args := [d1, d2, d3] }
  | _ => none }
def VtCutWrongFalsely : Prop := vtCutRow.holds Try.pinned (OpenSpec.ofChange vtCutWrong)

/-- 'inkhornlaw13.VtPlace': WHATEVER THE INPUT: true; the input reads as it did. -/
def vtPlaceSpec : ChangeSpec := { name := "vtPlace", fn := fun _ => fun
  | [d1, d2, d3] => { results := [.lit (.bool true)], args := [d1, d2, d3] }
  | _ => none }
def vtPlaceRow : OpenClaim := { program := "yteekihhngjbjgaa", sum := "6cca82798d20ca1a4596e78b775f5a1804cd611f4fe54757e5fa7d33ebe163fe", func := "inkhorn/inkhornlaw13.VtPlace", spec := "vtPlace", inPlace := ["internal/bytealg.MakeNoZero"], unfollowed := true, recurses := true, apart := false }
def VtPlaceSaid : Prop := vtPlaceRow.holds Try.pinned (OpenSpec.ofChange vtPlaceSpec)

/-- ITS FALSE NEIGHBOUR: 'it returns false'. Refute it at one input. -/
def vtPlaceWrong : ChangeSpec := { name := "vtPlace", fn := fun _ => fun
  | [d1, d2, d3] => { results := [.lit (.bool false)], args := [d1, d2, d3] }
  | _ => none }
def VtPlaceWrongFalsely : Prop := vtPlaceRow.holds Try.pinned (OpenSpec.ofChange vtPlaceWrong)

/-- 'inkhornlaw13.VtErase': WHATEVER THE INPUT: true; the input reads as it did. -/
def vtEraseSpec : ChangeSpec := { name := "vtErase", fn := fun _ => fun
  | [d1, d2, d3] => { results := [.lit (.bool true)], args := [d1, d2, d3] }
  | _ => none }
def vtEraseRow : OpenClaim := { program := "yteekihhngjbjgaa", sum := "6cca82798d20ca1a4596e78b775f5a1804cd611f4fe54757e5fa7d33ebe163fe", func := "inkhorn/inkhornlaw13.VtErase", spec := "vtErase", inPlace := ["internal/bytealg.MakeNoZero"], unfollowed := true, recurses := true, apart := false }
def VtEraseSaid : Prop := vtEraseRow.holds Try.pinned (OpenSpec.ofChange vtEraseSpec)

/-- ITS FALSE NEIGHBOUR: 'it returns false'. Refute it at one input. -/
def vtEraseWrong : ChangeSpec := { name := "vtErase", fn := fun _ => fun
  | [d1, d2, d3] => { results := [.lit (.bool false)], args := [d1, d2, d3] }
  | _ => none }
def VtEraseWrongFalsely : Prop := vtEraseRow.holds Try.pinned (OpenSpec.ofChange vtEraseWrong)

/-- 'inkhornlaw13.VtScroll': WHATEVER THE INPUT: true; the input reads as it did. -/
def vtScrollSpec : ChangeSpec := { name := "vtScroll", fn := fun _ => fun
  | [d1, d2] => { results := [.lit (.bool true)], args := [d1, d2] }
  | _ => none }
def vtScrollRow : OpenClaim := { program := "yteekihhngjbjgaa", sum := "6cca82798d20ca1a4596e78b775f5a1804cd611f4fe54757e5fa7d33ebe163fe", func := "inkhorn/inkhornlaw13.VtScroll", spec := "vtScroll", inPlace := ["internal/bytealg.MakeNoZero"], unfollowed := true, recurses := true, apart := false }
def VtScrollSaid : Prop := vtScrollRow.holds Try.pinned (OpenSpec.ofChange vtScrollSpec)

/-- ITS FALSE NEIGHBOUR: 'it returns false'. Refute it at one input. -/
def vtScrollWrong : ChangeSpec := { name := "vtScroll", fn := fun _ => fun
  | [d1, d2] => { results := [.lit (.bool false)], args := [d1, d2] }
  | _ => none }
def VtScrollWrongFalsely : Prop := vtScrollRow.holds Try.pinned (OpenSpec.ofChange vtScrollWrong)

/-- 'inkhornlaw13.VtOdd': WHATEVER THE INPUT: true; the input reads as it did. -/
def vtOddSpec : ChangeSpec := { name := "vtOdd", fn := fun _ => fun
  | [d1, d2, d3] => { results := [.lit (.bool true)], args := [d1, d2, d3] }
  | _ => none }
def vtOddRow : OpenClaim := { program := "yteekihhngjbjgaa", sum := "6cca82798d20ca1a4596e78b775f5a1804cd611f4fe54757e5fa7d33ebe163fe", func := "inkhorn/inkhornlaw13.VtOdd", spec := "vtOdd", inPlace := ["internal/bytealg.MakeNoZero"], unfollowed := true, recurses := true, apart := false }
def VtOddSaid : Prop := vtOddRow.holds Try.pinned (OpenSpec.ofChange vtOddSpec)

/-- ITS FALSE NEIGHBOUR: 'it returns false'. Refute it at one input. -/
def vtOddWrong : ChangeSpec := { name := "vtOdd", fn := fun _ => fun
  | [d1, d2, d3] => { results := [.lit (.bool false)], args := [d1, d2, d3] }
  | _ => none }
def VtOddWrongFalsely : Prop := vtOddRow.holds Try.pinned (OpenSpec.ofChange vtOddWrong)

/- THE SECOND FORM. 'bulk': how many values and letters a reading holds, each counted each time it is reached (what is shared counts as often as it is met; a slice's spare places count too). A statement '..UptoSaid' is the law's where the arguments, and the package variables that the reading takes, are together of bulk at most 1048576: NARROWER than '..Said'. Prove '..Said' where nothing that the law and all that it calls make is longer than what came in: it says more and counts as full. Else prove '..UptoSaid'. A law counts once. -/
mutual
def uptoBulk {H : Type} : DataW H → Nat
  | .lit (.string bytes) => bytes.length + 1
  | .lit _ => 1
  | .nil => 1
  | .ptr d => uptoBulk d + 1
  | .slice elems spare => uptoBulkAll elems + uptoBulkAll spare + 1
  | .agg parts => uptoBulkAll parts + 1
  | .iface _ d => uptoBulk d + 1
  | .map entries => uptoBulkEntries entries + 1
  | .held _ => 1
def uptoBulkAll {H : Type} : List (DataW H) → Nat
  | [] => 0
  | d :: r => uptoBulk d + uptoBulkAll r
def uptoBulkEntries {H : Type} : List (Lit × DataW H) → Nat
  | [] => 0
  | x :: r => uptoBulkEntry x + uptoBulkEntries r
def uptoBulkEntry {H : Type} : Lit × DataW H → Nat
  | (.string bytes, d) => bytes.length + uptoBulk d + 1
  | (_, d) => uptoBulk d + 1
 end
def uptoSmall : (H : Type) → List (DataW H) → Bool := fun _ ds => decide (uptoBulkAll ds ≤ 1048576)
def OpenSpec.upto (s : _root_.Go.ChangeSpec) : _root_.Go.OpenSpec := { _root_.Go.OpenSpec.ofChange s with cond := some uptoSmall }

/-- 'inkhornlaw13.VtFeed', WHERE WHAT IT READS IS OF BULK AT MOST 1048576: true; the input reads as it did. -/
def vtFeedUptoRow : OpenClaim := { program := "yteekihhngjbjgaa", sum := "6cca82798d20ca1a4596e78b775f5a1804cd611f4fe54757e5fa7d33ebe163fe", func := "inkhorn/inkhornlaw13.VtFeed", spec := "vtFeed", inPlace := ["internal/bytealg.MakeNoZero"], unfollowed := true, recurses := true, apart := false, narrowed := true }
def VtFeedUptoSaid : Prop := vtFeedUptoRow.holds Try.pinned (OpenSpec.upto vtFeedSpec)

/-- 'inkhornlaw13.VtNone', WHERE WHAT IT READS IS OF BULK AT MOST 1048576: true; the input reads as it did. -/
def vtNoneUptoRow : OpenClaim := { program := "yteekihhngjbjgaa", sum := "6cca82798d20ca1a4596e78b775f5a1804cd611f4fe54757e5fa7d33ebe163fe", func := "inkhorn/inkhornlaw13.VtNone", spec := "vtNone", inPlace := ["internal/bytealg.MakeNoZero"], unfollowed := true, recurses := true, apart := false, narrowed := true }
def VtNoneUptoSaid : Prop := vtNoneUptoRow.holds Try.pinned (OpenSpec.upto vtNoneSpec)

/-- 'inkhornlaw13.VtCut', WHERE WHAT IT READS IS OF BULK AT MOST 1048576: true; the input reads as it did. -/
def vtCutUptoRow : OpenClaim := { program := "yteekihhngjbjgaa", sum := "6cca82798d20ca1a4596e78b775f5a1804cd611f4fe54757e5fa7d33ebe163fe", func := "inkhorn/inkhornlaw13.VtCut", spec := "vtCut", inPlace := ["internal/bytealg.MakeNoZero"], unfollowed := true, recurses := true, apart := false, narrowed := true }
def VtCutUptoSaid : Prop := vtCutUptoRow.holds Try.pinned (OpenSpec.upto vtCutSpec)

/-- 'inkhornlaw13.VtPlace', WHERE WHAT IT READS IS OF BULK AT MOST 1048576: true; the input reads as it did. -/
def vtPlaceUptoRow : OpenClaim := { program := "yteekihhngjbjgaa", sum := "6cca82798d20ca1a4596e78b775f5a1804cd611f4fe54757e5fa7d33ebe163fe", func := "inkhorn/inkhornlaw13.VtPlace", spec := "vtPlace", inPlace := ["internal/bytealg.MakeNoZero"], unfollowed := true, recurses := true, apart := false, narrowed := true }
def VtPlaceUptoSaid : Prop := vtPlaceUptoRow.holds Try.pinned (OpenSpec.upto vtPlaceSpec)

/-- 'inkhornlaw13.VtErase', WHERE WHAT IT READS IS OF BULK AT MOST 1048576: true; the input reads as it did. -/
def vtEraseUptoRow : OpenClaim := { program := "yteekihhngjbjgaa", sum := "6cca82798d20ca1a4596e78b775f5a1804cd611f4fe54757e5fa7d33ebe163fe", func := "inkhorn/inkhornlaw13.VtErase", spec := "vtErase", inPlace := ["internal/bytealg.MakeNoZero"], unfollowed := true, recurses := true, apart := false, narrowed := true }
def VtEraseUptoSaid : Prop := vtEraseUptoRow.holds Try.pinned (OpenSpec.upto vtEraseSpec)

/-- 'inkhornlaw13.VtScroll', WHERE WHAT IT READS IS OF BULK AT MOST 1048576: true; the input reads as it did. -/
def vtScrollUptoRow : OpenClaim := { program := "yteekihhngjbjgaa", sum := "6cca82798d20ca1a4596e78b775f5a1804cd611f4fe54757e5fa7d33ebe163fe", func := "inkhorn/inkhornlaw13.VtScroll", spec := "vtScroll", inPlace := ["internal/bytealg.MakeNoZero"], unfollowed := true, recurses := true, apart := false, narrowed := true }
def VtScrollUptoSaid : Prop := vtScrollUptoRow.holds Try.pinned (OpenSpec.upto vtScrollSpec)

/-- 'inkhornlaw13.VtOdd', WHERE WHAT IT READS IS OF BULK AT MOST 1048576: true; the input reads as it did. -/
def vtOddUptoRow : OpenClaim := { program := "yteekihhngjbjgaa", sum := "6cca82798d20ca1a4596e78b775f5a1804cd611f4fe54757e5fa7d33ebe163fe", func := "inkhorn/inkhornlaw13.VtOdd", spec := "vtOdd", inPlace := ["internal/bytealg.MakeNoZero"], unfollowed := true, recurses := true, apart := false, narrowed := true }
def VtOddUptoSaid : Prop := vtOddUptoRow.holds Try.pinned (OpenSpec.upto vtOddSpec)

end Rows
end Go.Proofs.Yteekihhngjbjgaa
