/- PiecesNone, walked. -/
import Derived.Test.YtdbeedhedjhamaaPceMuch
namespace Go.Proofs.Ytdbeedhedjhamaa.pce
open Go.RowKit Go.Lib
set_option linter.unusedVariables false
set_option linter.unusedSimpArgs false
set_option linter.unnecessarySimpa false
set_option linter.unusedSectionVars false

/-- A list that came in: its lines, each of a length that may be. -/
structure InL (w : World) (A : Option Addr) (n c : Nat) (zs : List ByteArray) : Prop where
  lst : Lst w (· < w.heap.size) A n c zs
  few : n ≤ maxLen
  size : ∀ z ∈ zs, z.size ≤ maxLen

end Go.Proofs.Ytdbeedhedjhamaa.pce
