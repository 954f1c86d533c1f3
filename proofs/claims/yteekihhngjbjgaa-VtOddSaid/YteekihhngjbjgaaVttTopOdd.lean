/- VtOdd, over a text as it comes in. -/
import Derived.Test.YteekihhngjbjgaaVttLawOdd
import Derived.Test.YteekihhngjbjgaaVttTops
namespace Go.Proofs.Yteekihhngjbjgaa.vtt
open Go.RowKit Go.Lib Go.Proofs.Yteekihhngjbjgaa.grd
set_option linter.unusedVariables false

theorem len_of (t : ByteArray) (h : t.size ≤ maxLen) : t.data.toList.length ≤ maxLen := by simpa using h
theorem top_odd (x y v : Nat) (t : ByteArray) (A : Option Addr) (n c : Nat) (l : List UInt8) (w : World) (hx : x < 256) (hy : y < 256) (hv : v < 256) (ht : t.size ≤ maxLen) (hn : n = l.length) (hm : n ≤ maxLen) (hr : VRd w 0 w.heap.size A (l.map u8)) : Calls Try.prog 9 #[.agg #[.int .u8 x, .int .u8 y, .int .u8 v], .string t, .slice A n c] w fun e w' => e = .returned (.bool true) ∧ Below w.heap.size w w' := by
  have := law_odd x y hx hy t.data.toList (len_of t ht) w v hv A n c l hn hm hr
  rw [B_list] at this; exact this
end Go.Proofs.Yteekihhngjbjgaa.vtt
