/- VtErase: all its ways. -/
import Derived.Test.YteekihhngjbjgaaVttLawKit
import Derived.Test.YteekihhngjbjgaaVttLawErase0
import Derived.Test.YteekihhngjbjgaaVttLawErase1
import Derived.Test.YteekihhngjbjgaaVttLawErase2
import Derived.Test.YteekihhngjbjgaaVttLawErase3
import Derived.Test.YteekihhngjbjgaaVttLawErase4
import Derived.Test.YteekihhngjbjgaaVttLawErase5
import Derived.Test.YteekihhngjbjgaaVttLawErase6
import Derived.Test.YteekihhngjbjgaaVttLawErase7
import Derived.Test.YteekihhngjbjgaaVttLawErase8
namespace Go.Proofs.Yteekihhngjbjgaa.vtt
open Go.RowKit Go.Lib Go.Proofs.Yteekihhngjbjgaa.grd
set_option linter.unusedVariables false
set_option linter.unusedSimpArgs false
set_option linter.unnecessarySimpa false
set_option linter.unusedSectionVars false

theorem law_erase (x y : Nat) (hx : x < 256) (hy : y < 256) (l : List UInt8) (hl : l.length ≤ maxLen) (q : Nat) (hq256 : q < 256) (w : World) :
    Calls Try.prog 7 #[.agg #[.int .u8 x, .int .u8 y], .string (B l), .int .u8 q] w (Yes w) := by
  have h : q % 9 < 9 := Nat.mod_lt _ (by omega)
  generalize hk : q % 9 = k at h
  match k, h with
  | 0, _ => exact law_erase0 x y hx hy l hl q hq256 hk w
  | 1, _ => exact law_erase1 x y hx hy l hl q hq256 hk w
  | 2, _ => exact law_erase2 x y hx hy l hl q hq256 hk w
  | 3, _ => exact law_erase3 x y hx hy l hl q hq256 hk w
  | 4, _ => exact law_erase4 x y hx hy l hl q hq256 hk w
  | 5, _ => exact law_erase5 x y hx hy l hl q hq256 hk w
  | 6, _ => exact law_erase6 x y hx hy l hl q hq256 hk w
  | 7, _ => exact law_erase7 x y hx hy l hl q hq256 hk w
  | 8, _ => exact law_erase8 x y hx hy l hl q hq256 hk w
  | k + 9, h => omega
end Go.Proofs.Yteekihhngjbjgaa.vtt
