/- VtScroll, over a text as it comes in. -/
import Derived.Test.YteekihhngjbjgaaVttLawScroll
import Derived.Test.YteekihhngjbjgaaVttTops
namespace Go.Proofs.Yteekihhngjbjgaa.vtt
open Go.RowKit Go.Lib Go.Proofs.Yteekihhngjbjgaa.grd
set_option linter.unusedVariables false

theorem len_of (t : ByteArray) (h : t.size ≤ maxLen) : t.data.toList.length ≤ maxLen := by simpa using h
theorem top_scroll (x y : Nat) (t : ByteArray) (w : World) (hx : x < 256) (hy : y < 256) (ht : t.size ≤ maxLen) : Calls Try.prog 8 #[.agg #[.int .u8 x, .int .u8 y], .string t] w fun e w' => e = .returned (.bool true) ∧ Below w.heap.size w w' := by
  have := law_scroll x y hx hy t.data.toList (len_of t ht) w
  rw [B_list] at this; exact this
end Go.Proofs.Yteekihhngjbjgaa.vtt
