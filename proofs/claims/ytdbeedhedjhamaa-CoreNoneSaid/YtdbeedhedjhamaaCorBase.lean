/- Core: words that stage 7 has in a text that leans on more. -/
import Derived.Test.YtdbeedhedjhamaaPceMuch
namespace Go.Proofs.Ytdbeedhedjhamaa.pce
open Go.RowKit Go.Lib
abbrev Ls (w : World) (A : Option Addr) (n c : Nat) (zs : List ByteArray) : Prop := Lst w (fun _ => True) A n c zs
theorem Lst.any {w : World} {F : Nat → Prop} {A : Option Addr} {n c : Nat} {zs : List ByteArray} (h : Lst w F A n c zs) : Ls w A n c zs := h.mono fun _ _ _ => trivial
theorem Lst.drew {w : World} {F : Nat → Prop} {A : Option Addr} {n c : Nat} {zs : List ByteArray} (h : Lst w F A n c zs) : Lst w.drew F A n c zs := ⟨h.len, h.room, h.nil, h.row⟩
end Go.Proofs.Ytdbeedhedjhamaa.pce
