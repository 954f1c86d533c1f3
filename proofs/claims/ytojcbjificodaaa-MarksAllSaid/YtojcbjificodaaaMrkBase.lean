/- Marks: words that stages 1 and 7 have in texts that lean on more. -/
import Derived.Test.YtojcbjificodaaaWords
import Derived.Lib.SlicesS
import Derived.Lib.Bytealg
namespace Go.Proofs.Ytojcbjificodaaa
open Go.RowKit Go.Lib
/-- Has a text a byte 10? -/
def nl (s : ByteArray) : Bool := decide (0 ≤ Lib.indexByte s.data.toList 10)
/-- Is a text longer than a line may be? -/
def long (s : ByteArray) : Bool := decide (1000 < s.size)
/-- The answer: 2: an argument; 3: too long; 0: none. -/
def chk (zs : List ByteArray) : Int := if zs.any nl then 2 else if 2000 < zs.length ∨ zs.any long then 3 else 0
namespace pce
/-- A list in a row of one's own, made since w. -/
def Row (w : World) (zs : List ByteArray) (v : Value) (w' : World) : Prop :=
  ∃ B k c, v = .slice B k c ∧ k = zs.length ∧ w'.ownsRow w.heap.size 9 1 (.slice B k c) k (zs.map Value.string) ∧ Below w.heap.size w w'
/-- All that lay there when wb was still does. -/
def More (p : Nat) (wb W : World) : Prop := Below p wb W
end pce
end Go.Proofs.Ytojcbjificodaaa
