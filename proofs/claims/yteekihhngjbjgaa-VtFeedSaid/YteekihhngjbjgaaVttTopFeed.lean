/- VtFeed, over a list of texts as it comes in. -/
import Derived.Test.YteekihhngjbjgaaVttLawFeed
import Derived.Test.YteekihhngjbjgaaVttTops
namespace Go.Proofs.Yteekihhngjbjgaa.vtt
open Go.RowKit Go.Lib Go.Proofs.Yteekihhngjbjgaa.grd
set_option linter.unusedVariables false

theorem top_feed (r0 c0 : Int) (A : Option Addr) (n c : Nat) (zs : List ByteArray) (w : World) (hL : IsList w A n c zs) : Calls Try.prog 3 #[.int .i64 r0, .int .i64 c0, .slice A n c] w fun e w' => e = .returned (.bool true) ∧ Below w.heap.size w w' := law_feed r0 c0 A n c zs w hL
end Go.Proofs.Yteekihhngjbjgaa.vtt
