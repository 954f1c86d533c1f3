/- PiecesPlay, walked. -/
import Derived.Test.YtakckmelojobkaaGreatDoorPceDoes
import Derived.Deep.RegionHeld3
/-! PiecesNone, walked. -/
namespace Go.Proofs.YtakckmelojobkaaGreatDoor.pce
open Go.RowKit Go.Lib
set_option linter.unusedVariables false
set_option linter.unusedSimpArgs false
set_option linter.unnecessarySimpa false
set_option linter.unusedSectionVars false

/-- A list that came in: its lines, each of a length that may be. -/
structure InL (w : World) (A : Option Addr) (n c : Nat) (zs : List ByteArray) : Prop where
  lst : Lst w (· < w.heap.size) A n c zs
  few : n ≤ maxLen
  size : ∀ z ∈ zs, z.size ≤ maxLen

/-- Great, of a list that came in. -/
theorem great_in {w : World} {A : Option Addr} {n c : Nat} {zs : List ByteArray} (h : InL w A n c zs) (many bytes : Nat) (h1 : many ≤ 1000000) (h2 : bytes ≤ 1000000) :
    Calls Tryz.prog 11 #[.slice A n c, .int .i64 many, .int .i64 bytes] w (GreatSays zs many bytes w) :=
  great A c w.heap.size n many bytes zs w h.lst.len (by have := h.few; unfold maxLen at this; omega) h1 h2 h.size h.lst.srd

end Go.Proofs.YtakckmelojobkaaGreatDoor.pce

/-! PiecesMany, walked. -/
namespace Go.Proofs.YtakckmelojobkaaGreatDoor.pce
open Go.RowKit Go.Lib
set_option linter.unusedVariables false
set_option linter.unusedSimpArgs false
set_option linter.unnecessarySimpa false
set_option linter.unusedSectionVars false

theorem held4 {P Q R : Prop} {n : Nat} {wb W : World} (h : P ∧ Q ∧ R ∧ More n wb W) : More n wb W := h.2.2.2

end Go.Proofs.YtakckmelojobkaaGreatDoor.pce

/-! PiecesBack, walked. -/
namespace Go.Proofs.YtakckmelojobkaaGreatDoor.pce
open Go.RowKit Go.Lib
set_option linter.unusedVariables false
set_option linter.unusedSimpArgs false
set_option linter.unnecessarySimpa false
set_option linter.unusedSectionVars false

abbrev Ls (w : World) (A : Option Addr) (n c : Nat) (zs : List ByteArray) : Prop := Lst w (fun _ => True) A n c zs
theorem Lst.any {w : World} {F : Nat → Prop} {A : Option Addr} {n c : Nat} {zs : List ByteArray} (h : Lst w F A n c zs) : Ls w A n c zs := h.mono fun _ _ _ => trivial
theorem Lst.drew {w : World} {F : Nat → Prop} {A : Option Addr} {n c : Nat} {zs : List ByteArray} (h : Lst w F A n c zs) : Lst w.drew F A n c zs := ⟨h.len, h.room, h.nil, h.row⟩

/-- Two lists of the same lines, one of them known at w0. -/
theorem same_at (w0 : World) (A1 : Option Addr) (n1 c1 : Nat) (zs : List ByteArray) (h1 : Ls w0 A1 n1 c1 zs) (hl : zs.length ≤ 100000) (A2 : Option Addr) (n2 c2 : Nat) (W : World) (h2 : Ls W A2 n2 c2 zs) (hW : More w0.heap.size w0 W) :
    Calls Tryz.prog 21 #[.slice A2 n2 c2, .slice A1 n1 c1] W fun e w' => e = .returned (.bool true) ∧ More w0.heap.size w0 w' := by
  refine (same12_b A2 A1 c2 c1 n2 n1 zs zs W true h2.len h1.len (by rw [h2.len]; exact hl) (by rw [h1.len]; exact hl) (by simp) h2.srd (h1.below hW.to).srd).mono ?_
  rintro e w' ⟨rfl, hB⟩
  exact ⟨rfl, hW.to.trans (hB.mono hW.to.size)⟩
theorem held4' {P Q R : Prop} {n : Nat} {wb W : World} (h : P ∧ Q ∧ R ∧ More n wb W) : More n wb W := h.2.2.2

end Go.Proofs.YtakckmelojobkaaGreatDoor.pce

/-! PiecesAsk, walked. -/
namespace Go.Proofs.YtakckmelojobkaaGreatDoor.pce
open Go.RowKit Go.Lib
set_option linter.unusedVariables false
set_option linter.unusedSimpArgs false
set_option linter.unnecessarySimpa false
set_option linter.unusedSectionVars false

end Go.Proofs.YtakckmelojobkaaGreatDoor.pce

/-! PiecesPlay, walked. -/
namespace Go.Proofs.YtakckmelojobkaaGreatDoor.pce
open Go.RowKit Go.Lib
set_option linter.unusedVariables false
set_option linter.unusedSimpArgs false
set_option linter.unnecessarySimpa false
set_option linter.unusedSectionVars false

/-- Of what lay there nothing has turned but in block G. -/
structure But (G : Nat) (w w' : World) : Prop where
  os : w'.os = w.os
  tape : w'.tape = w.tape
  output : w'.output = w.output
  size : w.heap.size ≤ w'.heap.size
  block : ∀ k, k < w.heap.size → k ≠ G → w'.heap[k]? = w.heap[k]?
section
variable {G n : Nat} {a w w' : World} {F : Nat → Prop} {v : Value} {ps : List Pc} {A : Option Addr} {m c : Nat} {zs : List ByteArray}
theorem But.refl (G : Nat) (w : World) : But G w w := ⟨rfl, rfl, rfl, Nat.le_refl _, fun _ _ _ => rfl⟩
theorem But.setCell (h : But G a w) (i : Nat) (u : Value) : But G a (w.setCell ⟨G, i, none⟩ u) :=
  ⟨h.os, h.tape, h.output, by simpa using h.size, fun k hk hn => (Below.heap_setCell w ⟨G, i, none⟩ u k hn).trans (h.block k hk hn)⟩
theorem But.below (h : But G w w') (h1 : n ≤ w.heap.size) (h2 : n ≤ G) : Below n w w' := ⟨h.os, h.tape, h.output, h.size, fun k hk => h.block k (by omega) (by omega)⟩
theorem Lst.but (h : Lst w F A m c zs) (hB : But G w w') (hF : ∀ b, F b → b < w.heap.size → b ≠ G) : Lst w' F A m c zs := h.keep (fun b hb hl => hB.block b hl (hF b hb hl)) hB.size
end

theorem tot_append (a b : List ByteArray) : tot (a ++ b) = tot a + tot b := by simp [tot]
theorem tot_spl (L : List ByteArray) (a d : Nat) (ins : List ByteArray) : tot (spl L a d ins) ≤ tot L + tot ins := by
  unfold spl
  rw [tot_append, tot_append]
  have h1 : tot (L.take a) + tot (L.drop a) = tot L := by rw [← tot_append, List.take_append_drop]
  have h2 : tot ((L.drop a).take d) + tot (L.drop (a + d)) = tot (L.drop a) := by
    rw [← List.drop_drop, ← tot_append, List.take_append_drop]
  omega

theorem held3 {P Q : Prop} {n : Nat} {wb W : World} (h : P ∧ Q ∧ More n wb W) : More n wb W := h.2.2
/-- A twin, as a list. -/
theorem twin_lst {w : World} {base g cap : Nat} {zs : List ByteArray} (h : w.ownsRow base 9 1 (.slice (some ⟨g, 0, none⟩) (zs.length + 1) cap) (zs.length + 1) ((zs ++ [star]).map Value.string)) : Ls w (some ⟨g, 0, none⟩) zs.length cap zs := by
  have hc := (own_cap h).1
  have hS : SRd w w.heap.size (some ⟨g, 0, none⟩) zs := SRd.of_row (zs := zs) (more := [star]) (m := zs.length + 1) (by simp) h
  exact ⟨rfl, by omega, (fun h => (by cases h)), (VRd.of_srd hS (Nat.le_refl _)).mono fun _ _ _ => trivial⟩

end Go.Proofs.YtakckmelojobkaaGreatDoor.pce
