/- Pieces: New, Lines, Line, Text, Compact. -/
import Derived.Test.YtakckmelojobkaaGreatDoorPceConcat
namespace Go.Proofs.YtakckmelojobkaaGreatDoor.pce
open Go.RowKit Go.Lib
set_option linter.unusedVariables false
set_option linter.unusedSimpArgs false
set_option linter.unnecessarySimpa false
set_option linter.unusedSectionVars false

/-- A piece as one of the slices that are put together. -/
def psg (p : Pc) : Sg := ⟨some ⟨p.blk, p.off, none⟩, p.l.length, p.l.map Value.string⟩
theorem psg_sgv (ps : List Pc) : (ps.map psg).map sgv = ps.map pv := by
  rw [List.map_map]
  refine List.map_congr_left fun p _ => ?_
  simp [psg, sgv, pv]
theorem psg_sum (ps : List Pc) : sum (ps.map psg) = (texts ps).map Value.string := by
  induction ps with
  | nil => rfl
  | cons p r ih =>
    rw [texts_cons, List.map_append, ← ih]
    simp [sum, psg]
/-- All texts of a list of pieces, put together. -/
theorem concat_pcs (w : World) (F : Nat → Prop) (A : Option Addr) (n c : Nat) (ps : List Pc) (h : Pcs w F A n c ps) (ht : (texts ps).length ≤ 100000) :
    Calls Tryz.prog 45 #[.slice A n c] w fun e w' => ∃ B k c', e = .returned (.slice B k c') ∧ k = (texts ps).length ∧ w'.ownsRow w.heap.size 9 1 (.slice B k c') k ((texts ps).map Value.string) ∧ Below w.heap.size w w' := by
  have hl := texts_len h.full
  refine (concatT w F A n c (ps.map psg) (by rw [List.length_map]; exact h.len) (by have := h.len; omega) (by rw [psg_sum, List.length_map]; exact ht) (by rw [psg_sgv]; exact h.row) ?_).mono ?_
  · intro s hs
    obtain ⟨p, hp, rfl⟩ := List.mem_map.1 hs
    exact ⟨fun h => (by cases h), (h.each p hp).vrd, one_strs _⟩
  · rintro e w' ⟨B, k, c', rfl, hk, hown, hB⟩
    rw [psg_sum] at hk hown
    exact ⟨B, k, c', rfl, by rw [hk, List.length_map], hown, hB⟩

/-- A list of texts in a row of its own, behind what was there. -/
def Row (w : World) (zs : List ByteArray) (v : Value) (w' : World) : Prop :=
  ∃ B k c, v = .slice B k c ∧ k = zs.length ∧ w'.ownsRow w.heap.size 9 1 (.slice B k c) k (zs.map Value.string) ∧ Below w.heap.size w w'

/-- The line of a number. -/
def lineAt (L : List ByteArray) (i : Int) : Option ByteArray := if 1 ≤ i then L[(i - 1).toNat]? else none
theorem line_list (L : List ByteArray) (i : Int) : (L.take i.toNat).drop (i - 1).toNat = (lineAt L i).toList := by
  unfold lineAt
  split
  · rename_i h
    obtain ⟨k, hk⟩ : ∃ k : Nat, (i - 1).toNat = k := ⟨_, rfl⟩
    rw [hk, show i.toNat = k + 1 by omega]
    cases e : L[k]? with
    | none =>
      have : L.length ≤ k := List.getElem?_eq_none_iff.1 e
      rw [List.drop_of_length_le (by rw [List.length_take]; omega)]; rfl
    | some s =>
      obtain ⟨hl, rfl⟩ := List.getElem?_eq_some_iff.1 e
      rw [List.take_succ_eq_append_getElem hl, List.drop_append_of_le_length (by rw [List.length_take]; omega), List.drop_of_length_le (by rw [List.length_take]; omega)]; rfl
  · rw [show i.toNat = 0 by omega]; simp
/-- What Line tells. -/
def told (o : Option ByteArray) : Ending := .returned (.tuple #[.string (o.getD ⟨#[]⟩), .bool o.isSome])

end Go.Proofs.YtakckmelojobkaaGreatDoor.pce
