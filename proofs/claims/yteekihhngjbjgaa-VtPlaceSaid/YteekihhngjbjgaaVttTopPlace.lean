/- VtPlace, over a text as it comes in. -/
import Derived.Test.YteekihhngjbjgaaVttLawPlace
import Derived.Test.YteekihhngjbjgaaVttTops
namespace Go.Proofs.Yteekihhngjbjgaa.vtt
open Go.RowKit Go.Lib Go.Proofs.Yteekihhngjbjgaa.grd
set_option linter.unusedVariables false

theorem len_of (t : ByteArray) (h : t.size ≤ maxLen) : t.data.toList.length ≤ maxLen := by simpa using h
theorem top_place (x y p q : Nat) (t : ByteArray) (w : World) (hx : x < 256) (hy : y < 256) (ht : t.size ≤ maxLen) (hp : p < 65536) (hq : q < 65536) : Calls Try.prog 6 #[.agg #[.int .u8 x, .int .u8 y], .string t, .agg #[.int .u16 p, .int .u16 q]] w fun e w' => e = .returned (.bool true) ∧ Below w.heap.size w w' := by
  have := law_place x y hx hy t.data.toList (len_of t ht) p q hp hq w
  rw [B_list] at this; exact this
end Go.Proofs.Yteekihhngjbjgaa.vtt
