/- Pieces: the law's examples come out. -/
import Derived.Test.YtakckmelojobkaaDoorPceMuch
namespace Go.Proofs.YtakckmelojobkaaDoor.pce
open Go.RowKit Go.Lib
set_option linter.unusedVariables false
set_option linter.unusedSimpArgs false
set_option linter.unnecessarySimpa false
set_option linter.unusedSectionVars false

/-- A list that is written out. -/
theorem lit_srd (w : World) (zs : List ByteArray) : SRd (w.alloc (.cells (zs.map Value.string).toArray 9)) (w.alloc (.cells (zs.map Value.string).toArray 9)).heap.size (some ⟨w.heap.size, 0, none⟩) zs := by
  intro hn
  refine ⟨_, _, rfl, by simp, fun j hj => ?_⟩
  have hb := heap_alloc_new w (.cells (zs.map Value.string).toArray 9)
  rw [cell_of_row _ _ _ _ _ _ hb]
  simp [List.getD, List.getElem?_eq_getElem hj]
/-- A list against one that is written out. -/
theorem same_lit (A : Option Addr) (c n m : Nat) (xs ys : List ByteArray) (w : World) (o : Obj) (b : Bool) (ho : o = .cells (ys.map Value.string).toArray 9) (hn : n = xs.length) (hm : m = ys.length) (hn1 : n ≤ 100000) (hm1 : m ≤ 100000) (hb : decide (xs = ys) = b) (h : SRd w w.heap.size A xs) :
    Calls Tryd.prog 16 #[.slice A n c, .slice (some ⟨w.heap.size, 0, none⟩) m m] (w.alloc o) fun e w' => e = .returned (.bool b) ∧ Below w.heap.size w w' := by
  subst ho
  refine (same12_b A (some ⟨w.heap.size, 0, none⟩) c m n m xs ys _ b hn hm hn1 hm1 hb ((h.alloc (Nat.le_refl _) _).more (by simp)) (lit_srd w ys)).mono ?_
  rintro e w' ⟨rfl, hB⟩
  exact ⟨rfl, ((Below.refl _ w).alloc (Nat.le_refl _) _).trans (hB.mono (by simp))⟩

abbrev La : ByteArray := ⟨#[97]⟩
abbrev Lb : ByteArray := ⟨#[98]⟩
abbrev Lc : ByteArray := ⟨#[99]⟩
abbrev Lx : ByteArray := ⟨#[120]⟩
abbrev Ly : ByteArray := ⟨#[121]⟩
theorem fine_abc : Fine [La, Lb, Lc] := fine_chk.1 (by decide)
theorem fine_xy : Fine [Lx, Ly] := fine_chk.1 (by decide)

theorem newX (w : World) : Calls Tryd.prog 24 #[.slice (some ⟨w.heap.size, 0, none⟩) 3 3] (w.alloc (.cells #[.string La, .string Lb, .string Lc] 9)) fun e w' => ∃ v ps, e = .returned v ∧ Tab w' (w.heap.size ≤ ·) v ps ∧ Hid (texts ps = [La, Lb, Lc]) ∧ Below w.heap.size w w' := by
  refine (new_yes _ _ 3 3 [La, Lb, Lc] rfl (by decide) (fun h => by cases h) fine_abc (lit_srd w [La, Lb, Lc])).mono ?_
  rintro e w' ⟨v, ps, rfl, hT, hx, hB⟩
  exact ⟨v, ps, rfl, hT.mono (fun b hb _ => by have : w.heap.size + 1 ≤ b := by simpa using hb
                                               omega), hx, ((Below.refl _ w).alloc (Nat.le_refl _) _).trans (hB.mono (by simp))⟩

theorem spliceX (w : World) (F : Nat → Prop) (v : Value) (ps : List Pc) (h : Tab w F v ps) (hx : texts ps = [La, Lb, Lc]) :
    Calls Tryd.prog 25 #[v, .int .i64 1, .int .i64 1, .slice (some ⟨w.heap.size, 0, none⟩) 2 2] (w.alloc (.cells #[.string Lx, .string Ly] 9)) fun e w' =>
      ∃ v' ps', e = .returned (.tuple #[v', .int .i64 0]) ∧ Tab w' (fun b => F b ∨ w.heap.size ≤ b) v' ps' ∧ Hid (texts ps' = [La, Lx, Ly, Lc]) ∧ Below w.heap.size w w' := by
  have hB0 : Below w.heap.size w (w.alloc (.cells #[.string Lx, .string Ly] 9)) := (Below.refl _ w).alloc (Nat.le_refl _) _
  refine (splice_yes _ F v ps 1 1 (some ⟨w.heap.size, 0, none⟩) 2 2 [Lx, Ly] rfl (by decide) (fun h => by cases h) (lit_srd w [Lx, Ly]) (h.below hB0) (by rw [hx]; decide) fine_xy (by rw [hx]; decide)).mono ?_
  rintro e w' ⟨v', ps', rfl, hT, hx', _, hB⟩
  refine ⟨v', ps', rfl, hT.mono (fun b hb _ => hb.imp id (fun hb => ?_)), ?_, hB0.trans (hB.mono (by simp))⟩
  · have : w.heap.size + 1 ≤ b := by simpa using hb
    omega
  · rw [hx'] ; rw [hx]; rfl
theorem spliceY (w : World) (F : Nat → Prop) (v : Value) (ps : List Pc) (h : Tab w F v ps) (hx : texts ps = [La, Lb, Lc]) :
    Calls Tryd.prog 25 #[v, .int .i64 2, .int .i64 2, .slice none 0 0] w fun e w' => e = .returned (.tuple #[.pointer none, .int .i64 2]) ∧ Below w.heap.size w w' := by
  have e2 : splE (texts ps).length 2 2 [] = 2 := by rw [hx]; rfl
  refine (splice_is w F v ps 2 2 none 0 0 [] (by decide) (by decide) (by decide) (by decide) rfl (by decide) (fun _ => rfl) SRd.nil h).mono ?_
  rintro e w' ⟨hB, ⟨_, rfl⟩ | ⟨h0, _⟩⟩
  · rw [e2]; exact ⟨rfl, hB⟩
  · rw [e2] at h0; cases h0
theorem spliceZ (w : World) (F : Nat → Prop) (v : Value) (ps : List Pc) (h : Tab w F v ps) (hx : texts ps = [La, Lb, Lc]) :
    Calls Tryd.prog 25 #[v, .int .i64 0, .int .i64 3, .slice none 0 0] w fun e w' =>
      ∃ v' ps', e = .returned (.tuple #[v', .int .i64 0]) ∧ Tab w' (fun b => F b ∨ w.heap.size ≤ b) v' ps' ∧ Hid (texts ps' = []) ∧ Below w.heap.size w w' := by
  refine (splice_yes w F v ps 0 3 none 0 0 [] rfl (by decide) (fun _ => rfl) SRd.nil h (by rw [hx]; decide) Fine.nil (by rw [hx]; decide)).mono ?_
  rintro e w' ⟨v', ps', rfl, hT, hx', _, hB⟩
  refine ⟨v', ps', rfl, hT, ?_, hB⟩
  rw [hx'] ; rw [hx]; rfl
end Go.Proofs.YtakckmelojobkaaDoor.pce
