/- VtNone, over a text as it comes in. -/
import Derived.Test.YteekihhngjbjgaaVttLawNone
import Derived.Test.YteekihhngjbjgaaVttTops
namespace Go.Proofs.Yteekihhngjbjgaa.vtt
open Go.RowKit Go.Lib Go.Proofs.Yteekihhngjbjgaa.grd
set_option linter.unusedVariables false

theorem top_none (t : ByteArray) (w : World) (ht : t.size ≤ maxLen) : Calls Try.prog 4 #[.string t] w fun e w' => e = .returned (.bool true) ∧ Below w.heap.size w w' := law_none t ht w
end Go.Proofs.Yteekihhngjbjgaa.vtt
