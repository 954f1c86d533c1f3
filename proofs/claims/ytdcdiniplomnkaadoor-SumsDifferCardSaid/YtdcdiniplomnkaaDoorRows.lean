/-
  NARROWER THAN 'FOR EVERY INPUT', by the rows' own cells (each row's printed sentence says how): SumsWeigh: laid · SumsNumbers: laid · SumsJournal: laid · SumsDiffer: laid · SumsNoughts: laid · SumsRound: laid · SumsRead: laid.
  DERIVED. THE GIVEN ROWS OF THIS SEAT. 7 by the template 'for every input the law returns true; each argument reads behind the call as it read before'; 0 by the template 'total and deterministic' (their statements: YtdcdiniplomnkaaDoorTotals.lean).
  GIVEN WITH THE SEED: the statements are not yours to turn. If you find one false, say at which input.
  Laid BY PROGRAM, IN A SANDBOX (cutbox-rows.mjs): the forced cells as the released guide's own fill.sh prints them over the translation 225f05a0689806cc… (all of the seat's roots in one cut). By AI agents, Wed Nov 11 2026. No macro, syntax, notation, axiom, sorry.
-/
import Derived.Test.YtdcdiniplomnkaaDoorChecked
import GoSem.Claim
import GoSem.ClaimJoined
import GoSem.ClaimMapViews
import Derived.JoinedTies
import Derived.KernelRfl
namespace Go.Proofs.YtdcdiniplomnkaaDoor
/- THE CELL 'sum', in the pinned program and in every row, IS THE sha256 OF THE DUMP (.gsa) THAT YtdcdiniplomnkaaDoorProg.lean LOADS. Nothing in Lean hashes anything: it is a label: what it is worth is what the hold of that sum in a sandbox is worth. -/
noncomputable def Tryd.pinned : Pinned := { name := "ytdcdiniplomnkaadoor", sum := "225f05a0689806cc50106fc445e1055eb172b755b02e9df6d4df1c909b77c16b", checked := Tryd.checked }
namespace Rows
def none {H : Type} : Left H := { results := [], args := [] }

/- WHAT THE LISTED PACKAGE-LEVEL VARIABLES READ AS WHEN THE CALL BEGINS. Each datum BY PROGRAM (the guide's laid-datum.mjs) off the statement by which the dump's own 'gosem.cut.vars' lays the variable. In a bare row this is a premise. The card (YtdcdiniplomnkaaDoorCards.lean) ties it to the program's text. -/
def laid_math_bits_deBruijn32tab {H : Type} : DataW H := .agg [.lit (.int .u8 0), .lit (.int .u8 1), .lit (.int .u8 28), .lit (.int .u8 2), .lit (.int .u8 29), .lit (.int .u8 14), .lit (.int .u8 24), .lit (.int .u8 3), .lit (.int .u8 30), .lit (.int .u8 22), .lit (.int .u8 20), .lit (.int .u8 15), .lit (.int .u8 25), .lit (.int .u8 17), .lit (.int .u8 4), .lit (.int .u8 8), .lit (.int .u8 31), .lit (.int .u8 27), .lit (.int .u8 13), .lit (.int .u8 23), .lit (.int .u8 21), .lit (.int .u8 19), .lit (.int .u8 16), .lit (.int .u8 7), .lit (.int .u8 26), .lit (.int .u8 12), .lit (.int .u8 18), .lit (.int .u8 6), .lit (.int .u8 11), .lit (.int .u8 5), .lit (.int .u8 10), .lit (.int .u8 9)]
def laid_math_bits_deBruijn64tab {H : Type} : DataW H := .agg [.lit (.int .u8 0), .lit (.int .u8 1), .lit (.int .u8 56), .lit (.int .u8 2), .lit (.int .u8 57), .lit (.int .u8 49), .lit (.int .u8 28), .lit (.int .u8 3), .lit (.int .u8 61), .lit (.int .u8 58), .lit (.int .u8 42), .lit (.int .u8 50), .lit (.int .u8 38), .lit (.int .u8 29), .lit (.int .u8 17), .lit (.int .u8 4), .lit (.int .u8 62), .lit (.int .u8 47), .lit (.int .u8 59), .lit (.int .u8 36), .lit (.int .u8 45), .lit (.int .u8 43), .lit (.int .u8 51), .lit (.int .u8 22), .lit (.int .u8 53), .lit (.int .u8 39), .lit (.int .u8 33), .lit (.int .u8 30), .lit (.int .u8 24), .lit (.int .u8 18), .lit (.int .u8 12), .lit (.int .u8 5), .lit (.int .u8 63), .lit (.int .u8 55), .lit (.int .u8 48), .lit (.int .u8 27), .lit (.int .u8 60), .lit (.int .u8 41), .lit (.int .u8 37), .lit (.int .u8 16), .lit (.int .u8 46), .lit (.int .u8 35), .lit (.int .u8 44), .lit (.int .u8 21), .lit (.int .u8 52), .lit (.int .u8 32), .lit (.int .u8 23), .lit (.int .u8 11), .lit (.int .u8 54), .lit (.int .u8 26), .lit (.int .u8 40), .lit (.int .u8 15), .lit (.int .u8 34), .lit (.int .u8 20), .lit (.int .u8 31), .lit (.int .u8 10), .lit (.int .u8 25), .lit (.int .u8 14), .lit (.int .u8 19), .lit (.int .u8 9), .lit (.int .u8 13), .lit (.int .u8 8), .lit (.int .u8 7), .lit (.int .u8 6)]
def laid_internal_strconv_uint64pow10 {H : Type} : DataW H := .agg [.lit (.int .u64 1), .lit (.int .u64 10), .lit (.int .u64 100), .lit (.int .u64 1000), .lit (.int .u64 10000), .lit (.int .u64 100000), .lit (.int .u64 1000000), .lit (.int .u64 10000000), .lit (.int .u64 100000000), .lit (.int .u64 1000000000), .lit (.int .u64 10000000000), .lit (.int .u64 100000000000), .lit (.int .u64 1000000000000), .lit (.int .u64 10000000000000), .lit (.int .u64 100000000000000), .lit (.int .u64 1000000000000000), .lit (.int .u64 10000000000000000), .lit (.int .u64 100000000000000000), .lit (.int .u64 1000000000000000000), .lit (.int .u64 10000000000000000000)]

/-- 'inkhornlaw03.SumsWeigh': WHATEVER THE INPUT: true; the input reads as it did. -/
def sumsWeighSpec : ChangeSpec := { name := "sumsWeigh", fn := fun _ => fun
  | [d1, d2] => { results := [.lit (.bool true)], args := [d1, d2] }
  | _ => none }
def sumsWeighRow : OpenClaim := { program := "ytdcdiniplomnkaadoor", sum := "225f05a0689806cc50106fc445e1055eb172b755b02e9df6d4df1c909b77c16b", func := "inkhorn/inkhornlaw03.SumsWeigh", spec := "sumsWeigh", inPlace := ["internal/abi.NoEscape", "internal/bytealg.MakeNoZero"], named := ["internal/strconv.uint64pow10", "math/bits.deBruijn32tab", "math/bits.deBruijn64tab"], apart := false, laid := [("math/bits.deBruijn32tab", laid_math_bits_deBruijn32tab), ("math/bits.deBruijn64tab", laid_math_bits_deBruijn64tab), ("internal/strconv.uint64pow10", laid_internal_strconv_uint64pow10)] }
def SumsWeighSaid : Prop := sumsWeighRow.holds Tryd.pinned (OpenSpec.ofChange sumsWeighSpec)

/-- ITS FALSE NEIGHBOUR: 'it returns false'. Refute it at one input. -/
def sumsWeighWrong : ChangeSpec := { name := "sumsWeigh", fn := fun _ => fun
  | [d1, d2] => { results := [.lit (.bool false)], args := [d1, d2] }
  | _ => none }
def SumsWeighWrongFalsely : Prop := sumsWeighRow.holds Tryd.pinned (OpenSpec.ofChange sumsWeighWrong)

/-- 'inkhornlaw03.SumsNumbers': WHATEVER THE INPUT: true; the input reads as it did. -/
def sumsNumbersSpec : ChangeSpec := { name := "sumsNumbers", fn := fun _ => fun
  | [d1, d2, d3] => { results := [.lit (.bool true)], args := [d1, d2, d3] }
  | _ => none }
def sumsNumbersRow : OpenClaim := { program := "ytdcdiniplomnkaadoor", sum := "225f05a0689806cc50106fc445e1055eb172b755b02e9df6d4df1c909b77c16b", func := "inkhorn/inkhornlaw03.SumsNumbers", spec := "sumsNumbers", inPlace := ["internal/abi.NoEscape", "internal/bytealg.MakeNoZero"], named := ["internal/strconv.uint64pow10", "math/bits.deBruijn32tab", "math/bits.deBruijn64tab"], apart := false, laid := [("math/bits.deBruijn32tab", laid_math_bits_deBruijn32tab), ("math/bits.deBruijn64tab", laid_math_bits_deBruijn64tab), ("internal/strconv.uint64pow10", laid_internal_strconv_uint64pow10)] }
def SumsNumbersSaid : Prop := sumsNumbersRow.holds Tryd.pinned (OpenSpec.ofChange sumsNumbersSpec)

/-- ITS FALSE NEIGHBOUR: 'it returns false'. Refute it at one input. -/
def sumsNumbersWrong : ChangeSpec := { name := "sumsNumbers", fn := fun _ => fun
  | [d1, d2, d3] => { results := [.lit (.bool false)], args := [d1, d2, d3] }
  | _ => none }
def SumsNumbersWrongFalsely : Prop := sumsNumbersRow.holds Tryd.pinned (OpenSpec.ofChange sumsNumbersWrong)

/-- 'inkhornlaw03.SumsJournal': WHATEVER THE INPUT: true; the input reads as it did. -/
def sumsJournalSpec : ChangeSpec := { name := "sumsJournal", fn := fun _ => fun
  | [d] => { results := [.lit (.bool true)], args := [d] }
  | _ => none }
def sumsJournalRow : OpenClaim := { program := "ytdcdiniplomnkaadoor", sum := "225f05a0689806cc50106fc445e1055eb172b755b02e9df6d4df1c909b77c16b", func := "inkhorn/inkhornlaw03.SumsJournal", spec := "sumsJournal", inPlace := ["internal/abi.NoEscape", "internal/bytealg.MakeNoZero"], named := ["internal/strconv.uint64pow10", "math/bits.deBruijn32tab", "math/bits.deBruijn64tab"], apart := false, laid := [("math/bits.deBruijn32tab", laid_math_bits_deBruijn32tab), ("math/bits.deBruijn64tab", laid_math_bits_deBruijn64tab), ("internal/strconv.uint64pow10", laid_internal_strconv_uint64pow10)] }
def SumsJournalSaid : Prop := sumsJournalRow.holds Tryd.pinned (OpenSpec.ofChange sumsJournalSpec)

/-- ITS FALSE NEIGHBOUR: 'it returns false'. Refute it at one input. -/
def sumsJournalWrong : ChangeSpec := { name := "sumsJournal", fn := fun _ => fun
  | [d] => { results := [.lit (.bool false)], args := [d] }
  | _ => none }
def SumsJournalWrongFalsely : Prop := sumsJournalRow.holds Tryd.pinned (OpenSpec.ofChange sumsJournalWrong)

/-- 'inkhornlaw03.SumsDiffer': WHATEVER THE INPUT: true; the input reads as it did. -/
def sumsDifferSpec : ChangeSpec := { name := "sumsDiffer", fn := fun _ => fun
  | [d1, d2, d3] => { results := [.lit (.bool true)], args := [d1, d2, d3] }
  | _ => none }
def sumsDifferRow : OpenClaim := { program := "ytdcdiniplomnkaadoor", sum := "225f05a0689806cc50106fc445e1055eb172b755b02e9df6d4df1c909b77c16b", func := "inkhorn/inkhornlaw03.SumsDiffer", spec := "sumsDiffer", inPlace := ["internal/abi.NoEscape", "internal/bytealg.MakeNoZero"], named := ["internal/strconv.uint64pow10", "math/bits.deBruijn32tab", "math/bits.deBruijn64tab"], apart := false, laid := [("math/bits.deBruijn32tab", laid_math_bits_deBruijn32tab), ("math/bits.deBruijn64tab", laid_math_bits_deBruijn64tab), ("internal/strconv.uint64pow10", laid_internal_strconv_uint64pow10)] }
def SumsDifferSaid : Prop := sumsDifferRow.holds Tryd.pinned (OpenSpec.ofChange sumsDifferSpec)

/-- ITS FALSE NEIGHBOUR: 'it returns false'. Refute it at one input. -/
def sumsDifferWrong : ChangeSpec := { name := "sumsDiffer", fn := fun _ => fun
  | [d1, d2, d3] => { results := [.lit (.bool false)], args := [d1, d2, d3] }
  | _ => none }
def SumsDifferWrongFalsely : Prop := sumsDifferRow.holds Tryd.pinned (OpenSpec.ofChange sumsDifferWrong)

/-- 'inkhornlaw03.SumsNoughts': WHATEVER THE INPUT: true; the input reads as it did. -/
def sumsNoughtsSpec : ChangeSpec := { name := "sumsNoughts", fn := fun _ => fun
  | [d1, d2] => { results := [.lit (.bool true)], args := [d1, d2] }
  | _ => none }
def sumsNoughtsRow : OpenClaim := { program := "ytdcdiniplomnkaadoor", sum := "225f05a0689806cc50106fc445e1055eb172b755b02e9df6d4df1c909b77c16b", func := "inkhorn/inkhornlaw03.SumsNoughts", spec := "sumsNoughts", inPlace := ["internal/abi.NoEscape", "internal/bytealg.MakeNoZero"], named := ["internal/strconv.uint64pow10", "math/bits.deBruijn32tab", "math/bits.deBruijn64tab"], apart := false, laid := [("math/bits.deBruijn32tab", laid_math_bits_deBruijn32tab), ("math/bits.deBruijn64tab", laid_math_bits_deBruijn64tab), ("internal/strconv.uint64pow10", laid_internal_strconv_uint64pow10)] }
def SumsNoughtsSaid : Prop := sumsNoughtsRow.holds Tryd.pinned (OpenSpec.ofChange sumsNoughtsSpec)

/-- ITS FALSE NEIGHBOUR: 'it returns false'. Refute it at one input. -/
def sumsNoughtsWrong : ChangeSpec := { name := "sumsNoughts", fn := fun _ => fun
  | [d1, d2] => { results := [.lit (.bool false)], args := [d1, d2] }
  | _ => none }
def SumsNoughtsWrongFalsely : Prop := sumsNoughtsRow.holds Tryd.pinned (OpenSpec.ofChange sumsNoughtsWrong)

/-- 'inkhornlaw03.SumsRound': WHATEVER THE INPUT: true; the input reads as it did. -/
def sumsRoundSpec : ChangeSpec := { name := "sumsRound", fn := fun _ => fun
  | [d1, d2, d3] => { results := [.lit (.bool true)], args := [d1, d2, d3] }
  | _ => none }
def sumsRoundRow : OpenClaim := { program := "ytdcdiniplomnkaadoor", sum := "225f05a0689806cc50106fc445e1055eb172b755b02e9df6d4df1c909b77c16b", func := "inkhorn/inkhornlaw03.SumsRound", spec := "sumsRound", inPlace := ["internal/abi.NoEscape", "internal/bytealg.MakeNoZero"], named := ["internal/strconv.uint64pow10", "math/bits.deBruijn32tab", "math/bits.deBruijn64tab"], apart := false, laid := [("math/bits.deBruijn32tab", laid_math_bits_deBruijn32tab), ("math/bits.deBruijn64tab", laid_math_bits_deBruijn64tab), ("internal/strconv.uint64pow10", laid_internal_strconv_uint64pow10)] }
def SumsRoundSaid : Prop := sumsRoundRow.holds Tryd.pinned (OpenSpec.ofChange sumsRoundSpec)

/-- ITS FALSE NEIGHBOUR: 'it returns false'. Refute it at one input. -/
def sumsRoundWrong : ChangeSpec := { name := "sumsRound", fn := fun _ => fun
  | [d1, d2, d3] => { results := [.lit (.bool false)], args := [d1, d2, d3] }
  | _ => none }
def SumsRoundWrongFalsely : Prop := sumsRoundRow.holds Tryd.pinned (OpenSpec.ofChange sumsRoundWrong)

/-- 'inkhornlaw03.SumsRead': WHATEVER THE INPUT: true; the input reads as it did. -/
def sumsReadSpec : ChangeSpec := { name := "sumsRead", fn := fun _ => fun
  | [d] => { results := [.lit (.bool true)], args := [d] }
  | _ => none }
def sumsReadRow : OpenClaim := { program := "ytdcdiniplomnkaadoor", sum := "225f05a0689806cc50106fc445e1055eb172b755b02e9df6d4df1c909b77c16b", func := "inkhorn/inkhornlaw03.SumsRead", spec := "sumsRead", inPlace := ["internal/abi.NoEscape", "internal/bytealg.MakeNoZero"], named := ["internal/strconv.uint64pow10", "math/bits.deBruijn32tab", "math/bits.deBruijn64tab"], apart := false, laid := [("math/bits.deBruijn32tab", laid_math_bits_deBruijn32tab), ("math/bits.deBruijn64tab", laid_math_bits_deBruijn64tab), ("internal/strconv.uint64pow10", laid_internal_strconv_uint64pow10)] }
def SumsReadSaid : Prop := sumsReadRow.holds Tryd.pinned (OpenSpec.ofChange sumsReadSpec)

/-- ITS FALSE NEIGHBOUR: 'it returns false'. Refute it at one input. -/
def sumsReadWrong : ChangeSpec := { name := "sumsRead", fn := fun _ => fun
  | [d] => { results := [.lit (.bool false)], args := [d] }
  | _ => none }
def SumsReadWrongFalsely : Prop := sumsReadRow.holds Tryd.pinned (OpenSpec.ofChange sumsReadWrong)

/- THE SECOND FORM. 'bulk': how many values and letters a reading holds, each counted each time it is reached (what is shared counts as often as it is met; a slice's spare places count too). A statement '..UptoSaid' is the law's where the arguments, and the package variables that the reading takes, are together of bulk at most 1048576: NARROWER than '..Said'. Prove '..Said' where nothing that the law and all that it calls make is longer than what came in: it says more and counts as full. Else prove '..UptoSaid'. A law counts once. -/
mutual
def uptoBulk {H : Type} : DataW H → Nat
  | .lit (.string bytes) => bytes.length + 1
  | .lit _ => 1
  | .nil => 1
  | .ptr d => uptoBulk d + 1
  | .slice elems spare => uptoBulkAll elems + uptoBulkAll spare + 1
  | .agg parts => uptoBulkAll parts + 1
  | .iface _ d => uptoBulk d + 1
  | .map entries => uptoBulkEntries entries + 1
  | .held _ => 1
def uptoBulkAll {H : Type} : List (DataW H) → Nat
  | [] => 0
  | d :: r => uptoBulk d + uptoBulkAll r
def uptoBulkEntries {H : Type} : List (Lit × DataW H) → Nat
  | [] => 0
  | x :: r => uptoBulkEntry x + uptoBulkEntries r
def uptoBulkEntry {H : Type} : Lit × DataW H → Nat
  | (.string bytes, d) => bytes.length + uptoBulk d + 1
  | (_, d) => uptoBulk d + 1
 end
def uptoSmall : (H : Type) → List (DataW H) → Bool := fun _ ds => decide (uptoBulkAll ds ≤ 1048576)
def OpenSpec.upto (s : _root_.Go.ChangeSpec) : _root_.Go.OpenSpec := { _root_.Go.OpenSpec.ofChange s with cond := some uptoSmall }

/-- 'inkhornlaw03.SumsWeigh', WHERE WHAT IT READS IS OF BULK AT MOST 1048576: true; the input reads as it did. -/
def sumsWeighUptoRow : OpenClaim := { program := "ytdcdiniplomnkaadoor", sum := "225f05a0689806cc50106fc445e1055eb172b755b02e9df6d4df1c909b77c16b", func := "inkhorn/inkhornlaw03.SumsWeigh", spec := "sumsWeigh", inPlace := ["internal/abi.NoEscape", "internal/bytealg.MakeNoZero"], named := ["internal/strconv.uint64pow10", "math/bits.deBruijn32tab", "math/bits.deBruijn64tab"], apart := false, laid := [("math/bits.deBruijn32tab", laid_math_bits_deBruijn32tab), ("math/bits.deBruijn64tab", laid_math_bits_deBruijn64tab), ("internal/strconv.uint64pow10", laid_internal_strconv_uint64pow10)], narrowed := true }
def SumsWeighUptoSaid : Prop := sumsWeighUptoRow.holds Tryd.pinned (OpenSpec.upto sumsWeighSpec)

/-- 'inkhornlaw03.SumsNumbers', WHERE WHAT IT READS IS OF BULK AT MOST 1048576: true; the input reads as it did. -/
def sumsNumbersUptoRow : OpenClaim := { program := "ytdcdiniplomnkaadoor", sum := "225f05a0689806cc50106fc445e1055eb172b755b02e9df6d4df1c909b77c16b", func := "inkhorn/inkhornlaw03.SumsNumbers", spec := "sumsNumbers", inPlace := ["internal/abi.NoEscape", "internal/bytealg.MakeNoZero"], named := ["internal/strconv.uint64pow10", "math/bits.deBruijn32tab", "math/bits.deBruijn64tab"], apart := false, laid := [("math/bits.deBruijn32tab", laid_math_bits_deBruijn32tab), ("math/bits.deBruijn64tab", laid_math_bits_deBruijn64tab), ("internal/strconv.uint64pow10", laid_internal_strconv_uint64pow10)], narrowed := true }
def SumsNumbersUptoSaid : Prop := sumsNumbersUptoRow.holds Tryd.pinned (OpenSpec.upto sumsNumbersSpec)

/-- 'inkhornlaw03.SumsJournal', WHERE WHAT IT READS IS OF BULK AT MOST 1048576: true; the input reads as it did. -/
def sumsJournalUptoRow : OpenClaim := { program := "ytdcdiniplomnkaadoor", sum := "225f05a0689806cc50106fc445e1055eb172b755b02e9df6d4df1c909b77c16b", func := "inkhorn/inkhornlaw03.SumsJournal", spec := "sumsJournal", inPlace := ["internal/abi.NoEscape", "internal/bytealg.MakeNoZero"], named := ["internal/strconv.uint64pow10", "math/bits.deBruijn32tab", "math/bits.deBruijn64tab"], apart := false, laid := [("math/bits.deBruijn32tab", laid_math_bits_deBruijn32tab), ("math/bits.deBruijn64tab", laid_math_bits_deBruijn64tab), ("internal/strconv.uint64pow10", laid_internal_strconv_uint64pow10)], narrowed := true }
def SumsJournalUptoSaid : Prop := sumsJournalUptoRow.holds Tryd.pinned (OpenSpec.upto sumsJournalSpec)

/-- 'inkhornlaw03.SumsDiffer', WHERE WHAT IT READS IS OF BULK AT MOST 1048576: true; the input reads as it did. -/
def sumsDifferUptoRow : OpenClaim := { program := "ytdcdiniplomnkaadoor", sum := "225f05a0689806cc50106fc445e1055eb172b755b02e9df6d4df1c909b77c16b", func := "inkhorn/inkhornlaw03.SumsDiffer", spec := "sumsDiffer", inPlace := ["internal/abi.NoEscape", "internal/bytealg.MakeNoZero"], named := ["internal/strconv.uint64pow10", "math/bits.deBruijn32tab", "math/bits.deBruijn64tab"], apart := false, laid := [("math/bits.deBruijn32tab", laid_math_bits_deBruijn32tab), ("math/bits.deBruijn64tab", laid_math_bits_deBruijn64tab), ("internal/strconv.uint64pow10", laid_internal_strconv_uint64pow10)], narrowed := true }
def SumsDifferUptoSaid : Prop := sumsDifferUptoRow.holds Tryd.pinned (OpenSpec.upto sumsDifferSpec)

/-- 'inkhornlaw03.SumsNoughts', WHERE WHAT IT READS IS OF BULK AT MOST 1048576: true; the input reads as it did. -/
def sumsNoughtsUptoRow : OpenClaim := { program := "ytdcdiniplomnkaadoor", sum := "225f05a0689806cc50106fc445e1055eb172b755b02e9df6d4df1c909b77c16b", func := "inkhorn/inkhornlaw03.SumsNoughts", spec := "sumsNoughts", inPlace := ["internal/abi.NoEscape", "internal/bytealg.MakeNoZero"], named := ["internal/strconv.uint64pow10", "math/bits.deBruijn32tab", "math/bits.deBruijn64tab"], apart := false, laid := [("math/bits.deBruijn32tab", laid_math_bits_deBruijn32tab), ("math/bits.deBruijn64tab", laid_math_bits_deBruijn64tab), ("internal/strconv.uint64pow10", laid_internal_strconv_uint64pow10)], narrowed := true }
def SumsNoughtsUptoSaid : Prop := sumsNoughtsUptoRow.holds Tryd.pinned (OpenSpec.upto sumsNoughtsSpec)

/-- 'inkhornlaw03.SumsRound', WHERE WHAT IT READS IS OF BULK AT MOST 1048576: true; the input reads as it did. -/
def sumsRoundUptoRow : OpenClaim := { program := "ytdcdiniplomnkaadoor", sum := "225f05a0689806cc50106fc445e1055eb172b755b02e9df6d4df1c909b77c16b", func := "inkhorn/inkhornlaw03.SumsRound", spec := "sumsRound", inPlace := ["internal/abi.NoEscape", "internal/bytealg.MakeNoZero"], named := ["internal/strconv.uint64pow10", "math/bits.deBruijn32tab", "math/bits.deBruijn64tab"], apart := false, laid := [("math/bits.deBruijn32tab", laid_math_bits_deBruijn32tab), ("math/bits.deBruijn64tab", laid_math_bits_deBruijn64tab), ("internal/strconv.uint64pow10", laid_internal_strconv_uint64pow10)], narrowed := true }
def SumsRoundUptoSaid : Prop := sumsRoundUptoRow.holds Tryd.pinned (OpenSpec.upto sumsRoundSpec)

/-- 'inkhornlaw03.SumsRead', WHERE WHAT IT READS IS OF BULK AT MOST 1048576: true; the input reads as it did. -/
def sumsReadUptoRow : OpenClaim := { program := "ytdcdiniplomnkaadoor", sum := "225f05a0689806cc50106fc445e1055eb172b755b02e9df6d4df1c909b77c16b", func := "inkhorn/inkhornlaw03.SumsRead", spec := "sumsRead", inPlace := ["internal/abi.NoEscape", "internal/bytealg.MakeNoZero"], named := ["internal/strconv.uint64pow10", "math/bits.deBruijn32tab", "math/bits.deBruijn64tab"], apart := false, laid := [("math/bits.deBruijn32tab", laid_math_bits_deBruijn32tab), ("math/bits.deBruijn64tab", laid_math_bits_deBruijn64tab), ("internal/strconv.uint64pow10", laid_internal_strconv_uint64pow10)], narrowed := true }
def SumsReadUptoSaid : Prop := sumsReadUptoRow.holds Tryd.pinned (OpenSpec.upto sumsReadSpec)

end Rows
end Go.Proofs.YtdcdiniplomnkaaDoor
