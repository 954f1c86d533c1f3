/- Pieces: the law's examples come out. -/
import Derived.Test.YtakckmelojobkaaGreatDoorPceMuch
namespace Go.Proofs.YtakckmelojobkaaGreatDoor.pce
open Go.RowKit Go.Lib
set_option linter.unusedVariables false
set_option linter.unusedSimpArgs false
set_option linter.unnecessarySimpa false
set_option linter.unusedSectionVars false

/-- A list that is written out. -/
theorem lit_srd (w : World) (zs : List ByteArray) : SRd (w.alloc (.cells (zs.map Value.string).toArray 9)) (w.alloc (.cells (zs.map Value.string).toArray 9)).heap.size (some ⟨w.heap.size, 0, none⟩) zs := by
  intro hn
  refine ⟨_, _, rfl, by simp, fun j hj => ?_⟩
  have hb := heap_alloc_new w (.cells (zs.map Value.string).toArray 9)
  rw [cell_of_row _ _ _ _ _ _ hb]
  simp [List.getD, List.getElem?_eq_getElem hj]
/-- A list against one that is written out. -/
theorem same_lit (A : Option Addr) (c n m : Nat) (xs ys : List ByteArray) (w : World) (o : Obj) (b : Bool) (ho : o = .cells (ys.map Value.string).toArray 9) (hn : n = xs.length) (hm : m = ys.length) (hn1 : n ≤ 100000) (hm1 : m ≤ 100000) (hb : decide (xs = ys) = b) (h : SRd w w.heap.size A xs) :
    Calls Tryz.prog 21 #[.slice A n c, .slice (some ⟨w.heap.size, 0, none⟩) m m] (w.alloc o) fun e w' => e = .returned (.bool b) ∧ Below w.heap.size w w' := by
  subst ho
  refine (same12_b A (some ⟨w.heap.size, 0, none⟩) c m n m xs ys _ b hn hm hn1 hm1 hb ((h.alloc (Nat.le_refl _) _).more (by simp)) (lit_srd w ys)).mono ?_
  rintro e w' ⟨rfl, hB⟩
  exact ⟨rfl, ((Below.refl _ w).alloc (Nat.le_refl _) _).trans (hB.mono (by simp))⟩

abbrev La : ByteArray := ⟨#[97]⟩
abbrev Lb : ByteArray := ⟨#[98]⟩
abbrev Lc : ByteArray := ⟨#[99]⟩
abbrev Lx : ByteArray := ⟨#[120]⟩
abbrev Ly : ByteArray := ⟨#[121]⟩
theorem fine_abc : Fine [La, Lb, Lc] := fine_chk.1 (by decide)
theorem fine_xy : Fine [Lx, Ly] := fine_chk.1 (by decide)

end Go.Proofs.YtakckmelojobkaaGreatDoor.pce
