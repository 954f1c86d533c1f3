/- PiecesPlay, walked. -/
import Derived.Test.YtakckmelojobkaaDoorPceDoes
import Derived.Deep.RegionHeld3
/-! PiecesNone, walked. -/
namespace Go.Proofs.YtakckmelojobkaaDoor.pce
open Go.RowKit Go.Lib
set_option linter.unusedVariables false
set_option linter.unusedSimpArgs false
set_option linter.unnecessarySimpa false
set_option linter.unusedSectionVars false

/-- A list that came in: its lines, each of a length that may be. -/
structure InL (w : World) (A : Option Addr) (n c : Nat) (zs : List ByteArray) : Prop where
  lst : Lst w (· < w.heap.size) A n c zs
  few : n ≤ maxLen
  size : ∀ z ∈ zs, z.size ≤ maxLen

/-- Great, of a list that came in. -/
theorem great_in {w : World} {A : Option Addr} {n c : Nat} {zs : List ByteArray} (h : InL w A n c zs) (many bytes : Nat) (h1 : many ≤ 1000000) (h2 : bytes ≤ 1000000) :
    Calls Tryd.prog 9 #[.slice A n c, .int .i64 many, .int .i64 bytes] w (GreatSays zs many bytes w) :=
  great A c w.heap.size n many bytes zs w h.lst.len (by have := h.few; unfold maxLen at this; omega) h1 h2 h.size h.lst.srd

end Go.Proofs.YtakckmelojobkaaDoor.pce

/-! PiecesMany, walked. -/
namespace Go.Proofs.YtakckmelojobkaaDoor.pce
open Go.RowKit Go.Lib
set_option linter.unusedVariables false
set_option linter.unusedSimpArgs false
set_option linter.unnecessarySimpa false
set_option linter.unusedSectionVars false

/-- A table, wherever its blocks are. -/
abbrev Tb (w : World) (v : Value) (ps : List Pc) : Prop := Tab w (fun _ => True) v ps
theorem Tab.any {w : World} {F : Nat → Prop} {v : Value} {ps : List Pc} (h : Tab w F v ps) : Tb w v ps := h.mono fun _ _ _ => trivial
theorem Tab.ptr {w : World} {F : Nat → Prop} {v : Value} {ps : List Pc} (h : Tab w F v ps) : ∃ b, v = .pointer (some ⟨b, 0, none⟩) := by
  obtain ⟨b, _, _, _, hv, _⟩ := h; exact ⟨b, hv⟩

/-- A splice that is refused, wherever between w0 and later it is asked for. -/
theorem splice_bad (w0 : World) (v : Value) (ps : List Pc) (t : Ct) (F : Nat → Prop) (ht : CtOk w0 F t) (hl : t.ins.length ≤ 100000) (h : Tb w0 v ps) (k : Int) (hk : splE (texts ps).length t.a t.d t.ins = k) (hk0 : ¬ k = 0) (W : World) (hW : More w0.heap.size w0 W) :
    Calls Tryd.prog 25 #[v, .int .i64 t.a, .int .i64 t.d, .slice t.A t.ins.length t.c] W fun e w' => e = .returned (.tuple #[.pointer none, .int .i64 k]) ∧ More w0.heap.size w0 w' := by
  subst hk
  have hz := hW.to.size
  refine (splice_is W _ v ps t.a t.d t.A _ t.c t.ins ht.a1 ht.a2 ht.d1 ht.d2 rfl hl ht.lst.nil (ht.lst.below hW).srd (h.below hW)).mono ?_
  rintro e w' ⟨hB, ⟨h0, rfl⟩ | ⟨h0, _⟩⟩
  · exact ⟨rfl, hW.to.trans (hB.mono hz)⟩
  · exact absurd h0 hk0
/-- One that is done. -/
theorem splice_good (w0 : World) (v : Value) (ps : List Pc) (t : Ct) (F : Nat → Prop) (ht : CtOk w0 F t) (hl : t.ins.length ≤ 100000) (h : Tb w0 v ps) (hk : splE (texts ps).length t.a t.d t.ins = 0) (W : World) (hW : More w0.heap.size w0 W) :
    Calls Tryd.prog 25 #[v, .int .i64 t.a, .int .i64 t.d, .slice t.A t.ins.length t.c] W fun e w' => ∃ b ps', e = .returned (.tuple #[.pointer (some ⟨b, 0, none⟩), .int .i64 0]) ∧
      Tb w' (.pointer (some ⟨b, 0, none⟩)) ps' ∧ Hid (texts ps' = spl (texts ps) t.a.toNat t.d.toNat t.ins) ∧ Hid (ps'.length ≤ ps.length + 2) ∧ More w0.heap.size w0 w' := by
  have hz := hW.to.size
  refine (splice_is W _ v ps t.a t.d t.A _ t.c t.ins ht.a1 ht.a2 ht.d1 ht.d2 rfl hl ht.lst.nil (ht.lst.below hW).srd (h.below hW)).mono ?_
  rintro e w' ⟨hB, ⟨h0, _⟩ | ⟨h0, v', ps', rfl, hT, hx, hp⟩⟩
  · exact absurd hk h0
  · obtain ⟨b, rfl⟩ := hT.ptr
    exact ⟨b, ps', rfl, hT.any, hx, hp, hW.to.trans (hB.mono hz)⟩
theorem held4 {P Q R : Prop} {n : Nat} {wb W : World} (h : P ∧ Q ∧ R ∧ More n wb W) : More n wb W := h.2.2.2

end Go.Proofs.YtakckmelojobkaaDoor.pce

/-! PiecesBack, walked. -/
namespace Go.Proofs.YtakckmelojobkaaDoor.pce
open Go.RowKit Go.Lib
set_option linter.unusedVariables false
set_option linter.unusedSimpArgs false
set_option linter.unnecessarySimpa false
set_option linter.unusedSectionVars false

abbrev Ls (w : World) (A : Option Addr) (n c : Nat) (zs : List ByteArray) : Prop := Lst w (fun _ => True) A n c zs
theorem Lst.any {w : World} {F : Nat → Prop} {A : Option Addr} {n c : Nat} {zs : List ByteArray} (h : Lst w F A n c zs) : Ls w A n c zs := h.mono fun _ _ _ => trivial
theorem Lst.drew {w : World} {F : Nat → Prop} {A : Option Addr} {n c : Nat} {zs : List ByteArray} (h : Lst w F A n c zs) : Lst w.drew F A n c zs := ⟨h.len, h.room, h.nil, h.row⟩

/-- Lines, wherever between w0 and later it is asked for. -/
theorem lines_at (w0 : World) (v : Value) (ps : List Pc) (h : Tb w0 v ps) (a u : Int) (ha1 : -9223372036854775808 ≤ a) (ha2 : a ≤ 9223372036854775807) (hu1 : -9223372036854775808 ≤ u) (hu2 : u ≤ 9223372036854775807) (zs : List ByteArray) (hz : zs = ((texts ps).take u.toNat).drop (a - 1).toNat) (W : World) (hW : More w0.heap.size w0 W) :
    Calls Tryd.prog 26 #[v, .int .i64 a, .int .i64 u] W fun e w' => ∃ A n c, e = .returned (.slice A n c) ∧ Ls w' A n c zs ∧ More w0.heap.size w0 w' := by
  subst hz
  refine (lines_is W _ v ps a u ha1 ha2 hu1 hu2 (h.below hW)).mono ?_
  rintro e w' ⟨x, rfl, hR⟩
  obtain ⟨A, n, c, rfl, hL, hB⟩ := hR.lst
  exact ⟨A, n, c, rfl, hL.any, hW.to.trans (hB.mono hW.to.size)⟩
/-- Two lists of the same lines, one of them known at w0. -/
theorem same_at (w0 : World) (A1 : Option Addr) (n1 c1 : Nat) (zs : List ByteArray) (h1 : Ls w0 A1 n1 c1 zs) (hl : zs.length ≤ 100000) (A2 : Option Addr) (n2 c2 : Nat) (W : World) (h2 : Ls W A2 n2 c2 zs) (hW : More w0.heap.size w0 W) :
    Calls Tryd.prog 16 #[.slice A2 n2 c2, .slice A1 n1 c1] W fun e w' => e = .returned (.bool true) ∧ More w0.heap.size w0 w' := by
  refine (same12_b A2 A1 c2 c1 n2 n1 zs zs W true h2.len h1.len (by rw [h2.len]; exact hl) (by rw [h1.len]; exact hl) (by simp) h2.srd (h1.below hW.to).srd).mono ?_
  rintro e w' ⟨rfl, hB⟩
  exact ⟨rfl, hW.to.trans (hB.mono hW.to.size)⟩
/-- A splice that may be, of a list that was told just ahead of it. -/
theorem splice_with (w0 : World) (v : Value) (ps : List Pc) (h : Tb w0 v ps) (x m : Nat) (ins L : List ByteArray) (hle : x + m ≤ (texts ps).length) (hf : Fine ins) (hL : spl (texts ps) x m ins = L) (hl : L.length ≤ 2000) (hi : ins.length ≤ 100000) (A : Option Addr) (n c : Nat) (W : World) (hA : Ls W A n c ins) (hW : More w0.heap.size w0 W) :
    Calls Tryd.prog 25 #[v, .int .i64 x, .int .i64 m, .slice A n c] W fun e w' => ∃ b ps', e = .returned (.tuple #[.pointer (some ⟨b, 0, none⟩), .int .i64 0]) ∧ Tb w' (.pointer (some ⟨b, 0, none⟩)) ps' ∧ Hid (texts ps' = L) ∧ More w0.heap.size w0 w' := by
  have hz := hW.to.size
  refine (splice_yes W _ v ps x m A n c ins hA.len (by rw [hA.len]; exact hi) hA.nil hA.srd (h.below hW) hle hf (by rw [hL]; exact hl)).mono ?_
  rintro e w' ⟨v', ps', rfl, hT, hx, _, hB⟩
  obtain ⟨b, rfl⟩ := hT.ptr
  exact ⟨b, ps', rfl, hT.any, hx.trans hL, hW.to.trans (hB.mono hz)⟩
theorem held4' {P Q R : Prop} {n : Nat} {wb W : World} (h : P ∧ Q ∧ R ∧ More n wb W) : More n wb W := h.2.2.2

end Go.Proofs.YtakckmelojobkaaDoor.pce

/-! PiecesAsk, walked. -/
namespace Go.Proofs.YtakckmelojobkaaDoor.pce
open Go.RowKit Go.Lib
set_option linter.unusedVariables false
set_option linter.unusedSimpArgs false
set_option linter.unnecessarySimpa false
set_option linter.unusedSectionVars false

end Go.Proofs.YtakckmelojobkaaDoor.pce

/-! PiecesPlay, walked. -/
namespace Go.Proofs.YtakckmelojobkaaDoor.pce
open Go.RowKit Go.Lib
set_option linter.unusedVariables false
set_option linter.unusedSimpArgs false
set_option linter.unnecessarySimpa false
set_option linter.unusedSectionVars false

/-- Of what lay there nothing has turned but in block G. -/
structure But (G : Nat) (w w' : World) : Prop where
  os : w'.os = w.os
  tape : w'.tape = w.tape
  output : w'.output = w.output
  size : w.heap.size ≤ w'.heap.size
  block : ∀ k, k < w.heap.size → k ≠ G → w'.heap[k]? = w.heap[k]?
section
variable {G n : Nat} {a w w' : World} {F : Nat → Prop} {v : Value} {ps : List Pc} {A : Option Addr} {m c : Nat} {zs : List ByteArray}
theorem But.refl (G : Nat) (w : World) : But G w w := ⟨rfl, rfl, rfl, Nat.le_refl _, fun _ _ _ => rfl⟩
theorem But.setCell (h : But G a w) (i : Nat) (u : Value) : But G a (w.setCell ⟨G, i, none⟩ u) :=
  ⟨h.os, h.tape, h.output, by simpa using h.size, fun k hk hn => (Below.heap_setCell w ⟨G, i, none⟩ u k hn).trans (h.block k hk hn)⟩
theorem But.below (h : But G w w') (h1 : n ≤ w.heap.size) (h2 : n ≤ G) : Below n w w' := ⟨h.os, h.tape, h.output, h.size, fun k hk => h.block k (by omega) (by omega)⟩
theorem Tab.but (h : Tab w F v ps) (hB : But G w w') (hF : ∀ b, F b → b < w.heap.size → b ≠ G) : Tab w' F v ps := h.keep (fun b hb hl => hB.block b hl (hF b hb hl)) hB.size
theorem Lst.but (h : Lst w F A m c zs) (hB : But G w w') (hF : ∀ b, F b → b < w.heap.size → b ≠ G) : Lst w' F A m c zs := h.keep (fun b hb hl => hB.block b hl (hF b hb hl)) hB.size
end

theorem tot_append (a b : List ByteArray) : tot (a ++ b) = tot a + tot b := by simp [tot]
theorem tot_spl (L : List ByteArray) (a d : Nat) (ins : List ByteArray) : tot (spl L a d ins) ≤ tot L + tot ins := by
  unfold spl
  rw [tot_append, tot_append]
  have h1 : tot (L.take a) + tot (L.drop a) = tot L := by rw [← tot_append, List.take_append_drop]
  have h2 : tot ((L.drop a).take d) + tot (L.drop (a + d)) = tot (L.drop a) := by
    rw [← List.drop_drop, ← tot_append, List.take_append_drop]
  omega

/-- A splice of lines that stand anywhere, refused. -/
theorem play_bad (w0 : World) (v : Value) (ps : List Pc) (h : Tb w0 v ps) (a d : Int) (ha1 : -9223372036854775808 ≤ a) (ha2 : a ≤ 9223372036854775807) (hd1 : -9223372036854775808 ≤ d) (hd2 : d ≤ 9223372036854775807) (A : Option Addr) (n c : Nat) (ins : List ByteArray) (hi : Ls w0 A n c ins) (hl : n ≤ 100000) (k : Int) (hk : splE (texts ps).length a d ins = k) (hk0 : ¬ k = 0) (W : World) (hW : More w0.heap.size w0 W) :
    Calls Tryd.prog 25 #[v, .int .i64 a, .int .i64 d, .slice A n c] W fun e w' => e = .returned (.tuple #[.pointer none, .int .i64 k]) ∧ More w0.heap.size w0 w' := by
  subst hk
  refine (splice_is W _ v ps a d A n c ins ha1 ha2 hd1 hd2 hi.len hl hi.nil (hi.below hW.to).srd (h.below hW.to)).mono ?_
  rintro e w' ⟨hB, ⟨h0, rfl⟩ | ⟨h0, _⟩⟩
  · exact ⟨rfl, hW.to.trans (hB.mono hW.to.size)⟩
  · exact absurd h0 hk0
/-- One that is done: of which blocks the new table is. -/
theorem play_good (w0 : World) (F : Nat → Prop) (v : Value) (ps : List Pc) (h : Tab w0 F v ps) (a d : Int) (ha1 : -9223372036854775808 ≤ a) (ha2 : a ≤ 9223372036854775807) (hd1 : -9223372036854775808 ≤ d) (hd2 : d ≤ 9223372036854775807) (A : Option Addr) (n c : Nat) (ins : List ByteArray) (hi : Ls w0 A n c ins) (hl : n ≤ 100000) (hk : splE (texts ps).length a d ins = 0) (W : World) (hW : More w0.heap.size w0 W) :
    Calls Tryd.prog 25 #[v, .int .i64 a, .int .i64 d, .slice A n c] W fun e w' => ∃ b ps', e = .returned (.tuple #[.pointer (some ⟨b, 0, none⟩), .int .i64 0]) ∧
      Tab w' (fun b => F b ∨ w0.heap.size ≤ b) (.pointer (some ⟨b, 0, none⟩)) ps' ∧ Hid (texts ps' = spl (texts ps) a.toNat d.toNat ins) ∧ More w0.heap.size w0 w' := by
  have hz := hW.to.size
  refine (splice_is W _ v ps a d A n c ins ha1 ha2 hd1 hd2 hi.len hl hi.nil (hi.below hW.to).srd (h.below hW.to)).mono ?_
  rintro e w' ⟨hB, ⟨h0, _⟩ | ⟨h0, v', ps', rfl, hT, hx, _⟩⟩
  · exact absurd hk h0
  · obtain ⟨b, rfl⟩ := hT.ptr
    exact ⟨b, ps', rfl, hT.mono (fun b hb _ => hb.imp id (fun hb => by omega)), hx, hW.to.trans (hB.mono hz)⟩
theorem held3 {P Q : Prop} {n : Nat} {wb W : World} (h : P ∧ Q ∧ More n wb W) : More n wb W := h.2.2
/-- A twin, as a list. -/
theorem twin_lst {w : World} {base g cap : Nat} {zs : List ByteArray} (h : w.ownsRow base 9 1 (.slice (some ⟨g, 0, none⟩) (zs.length + 1) cap) (zs.length + 1) ((zs ++ [star]).map Value.string)) : Ls w (some ⟨g, 0, none⟩) zs.length cap zs := by
  have hc := (own_cap h).1
  have hS : SRd w w.heap.size (some ⟨g, 0, none⟩) zs := SRd.of_row (zs := zs) (more := [star]) (m := zs.length + 1) (by simp) h
  exact ⟨rfl, by omega, (fun h => (by cases h)), (VRd.of_srd hS (Nat.le_refl _)).mono fun _ _ _ => trivial⟩

end Go.Proofs.YtakckmelojobkaaDoor.pce
