/- What the library's variables hold, for the frames' walks; lists that a walk makes. -/
import Derived.Test.YtmknbakfjhjfmaaGreatDoorFrmPure2
import Derived.Test.YtmknbakfjhjfmaaGreatDoorNumTexts
import Derived.Test.YtmknbakfjhjfmaaGreatDoorSumHex
import Derived.Test.YtmknbakfjhjfmaaGreatDoorTwin
import Derived.Lib.Strings
import Derived.Lib.Walk
import Derived.Deep.QuietTactic
import Derived.Deep.RegionHeld3
import Derived.BigQuiet
namespace Go.Proofs.YtmknbakfjhjfmaaGreatDoor.frm
open Go.RowKit Go.Lib
open Go.Proofs.YtmknbakfjhjfmaaGreatDoor.num (putN putT putN_len2 putN_len20 MX getT getT_iff getT_drop atT retT)
open Go.Proofs.YtmknbakfjhjfmaaGreatDoor.sum (sumN sumN_lt hexN)

/-- What the library's variables hold. -/
def Vars (n : Nat) (w : World) : Prop := num.Vars n w ∧ sum.Vars n w ∧ 0 < n ∧ w.cell? ⟨0, 0, none⟩ = some (.iface 146 (.agg #[.pointer (some ⟨7, 53, none⟩)]))
theorem Vars.below {n : Nat} {w w' : World} (h : Vars n w) (hB : Below n w w') : Vars n w' :=
  ⟨h.1.below hB, h.2.1.below hB, h.2.2.1, (hB.cell (p := ⟨0, 0, none⟩) h.2.2.1).trans h.2.2.2⟩
theorem Vars.more {n m : Nat} {w : World} (h : Vars n w) (hm : n ≤ m) : Vars m w := ⟨h.1.more hm, h.2.1.more hm, Nat.lt_of_lt_of_le h.2.2.1 hm, h.2.2.2⟩
theorem Vars.next {w w' : World} (h : Vars w.heap.size w) (hB : Below w.heap.size w w') : Vars w'.heap.size w' := (h.below hB).more hB.size

/-- 'Below', as one word that no step opens. -/
def More (p : Nat) (wb W : World) : Prop := Below p wb W
theorem More.to {p : Nat} {wb W : World} (h : More p wb W) : Below p wb W := h

theorem B_append (a b : List UInt8) : B a ++ B b = B (a ++ b) := num.B_append a b
theorem size_list (s : ByteArray) : s.data.toList.length = s.size := num.size_list s
theorem ret_str {a b : ByteArray} (h : a = b) : Ending.returned (.string a) = .returned (.string b) := by rw [h]

theorem own_form {w : World} {base n : Nat} {v : Value} {xs : List Value} (h : w.ownsRow base 9 1 v n xs) : ∃ A c, v = .slice A n c := by
  rcases h.2 with ⟨rfl, h0⟩ | ⟨g, cap, _, rfl, _⟩
  · exact ⟨none, 0, by rw [h0]⟩
  · exact ⟨_, _, rfl⟩
theorem SRd.of_row {w : World} {base : Nat} {A : Option Addr} {m c : Nat} {zs : List ByteArray} (hm : m = zs.length) (h : w.ownsRow base 9 1 (.slice A m c) m (zs.map Value.string)) : SRd w w.heap.size A zs := by
  subst hm
  exact SRd.of_own h
theorem grown_of_below {w w' : World} (hB : Below w.heap.size w w') : w.grownBy w' none := ⟨hB.os, hB.tape, hB.output, hB.size, fun i hi _ => hB.block i hi⟩
theorem own_below {w w' : World} {base n e size : Nat} {v : Value} {xs : List Value} (h : w.ownsRow base e size v n xs) (hB : Below w.heap.size w w') : w'.ownsRow base e size v n xs := by
  have hl := h.lt
  refine ⟨h.1, ?_⟩
  rcases h.2 with h0 | ⟨g, cap, cur, rfl, hb, hg, h1⟩
  · exact .inl h0
  · exact .inr ⟨g, cap, cur, rfl, hb, (hB.block g (hl g rfl).2).trans hg, h1⟩
/-- The texts as values. -/
def strs (ps : List (List UInt8)) : List Value := (ps.map B).map Value.string
theorem strs_snoc (ps : List (List UInt8)) (x : List UInt8) : strs (ps ++ [x]) = strs ps ++ [Value.string (B x)] := by simp [strs]
end Go.Proofs.YtmknbakfjhjfmaaGreatDoor.frm
