/- Pieces: two rows of one's own that grow side by side: the tables that were made, and the lists that they had. -/
import Derived.Test.YtpopnplncgpfkaaPceLawPlay
import Derived.Deep.AppendLies
namespace Go.Proofs.Ytpopnplncgpfkaa.pce
open Go.RowKit Go.Lib
set_option linter.unusedVariables false
set_option linter.unusedSimpArgs false
set_option linter.unnecessarySimpa false
set_option linter.unusedSectionVars false

/-- A table that was made, and the list that it had. -/
structure It where
  b : Nat
  ps : List Pc
  A : Option Addr
  n : Nat
  c : Nat
def It.pt (i : It) : Value := .pointer (some ⟨i.b, 0, none⟩)
def It.sl (i : It) : Value := .slice i.A i.n i.c
structure Rows2 (w : World) (base : Nat) (F : Nat → Prop) (gm cm gh ch : Nat) (is js : List It) : Prop where
  made : w.ownsRow base 27 1 (.slice (some ⟨gm, 0, none⟩) is.length cm) is.length (is.map It.pt)
  had : w.ownsRow base 22 1 (.slice (some ⟨gh, 0, none⟩) js.length ch) js.length (js.map It.sl)
  mF : ¬ F gm
  hF : ¬ F gh
  ne : gm ≠ gh
  lt : ∀ b, F b → b < w.heap.size
structure EachI (w : World) (F : Nat → Prop) (i : It) : Prop where
  tab : Tab w F i.pt i.ps
  lst : Lst w F i.A i.n i.c (texts i.ps)
section
variable {w w' : World} {base gm cm gh ch : Nat} {F F' : Nat → Prop} {is js : List It} {i : It}
theorem Rows2.below (h : Rows2 w base F gm cm gh ch is js) (hB : Below w.heap.size w w') : Rows2 w' base F gm cm gh ch is js :=
  ⟨own_keep h.made hB, own_keep h.had hB, h.mF, h.hF, h.ne, fun b hb => Nat.lt_of_lt_of_le (h.lt b hb) hB.size⟩
theorem Rows2.more (h : Rows2 w base F gm cm gh ch is js) (hB : Below w.heap.size w w') (hF' : ∀ b, F' b → F b ∨ (w.heap.size ≤ b ∧ b < w'.heap.size)) : Rows2 w' base F' gm cm gh ch is js :=
  ⟨own_keep h.made hB, own_keep h.had hB, fun e => by
    rcases hF' _ e with e | e
    · exact h.mF e
    · have := (h.made.lt gm rfl).2; omega, fun e => by
    rcases hF' _ e with e | e
    · exact h.hF e
    · have := (h.had.lt gh rfl).2; omega, h.ne, fun b hb => by
    rcases hF' b hb with e | e
    · have := h.lt b e; have := hB.size; omega
    · exact e.2⟩
theorem but_grown {o : Obj} {G : Nat} (hg : (w.alloc o).grownBy w' (some G)) : But G w w' :=
  ⟨hg.os, hg.tape, hg.output, Nat.le_trans (by simp) hg.size, fun k hk hn => (hg.block k (by simp; omega) (fun e => hn (by injection e))).trans (Below.heap_alloc w o k hk)⟩
theorem Rows2.pushM (h : Rows2 w base F gm cm gh ch is js) {o : Obj} {g' cap : Nat} (i : It) (ho : w'.ownsRow base 27 1 (.slice (some ⟨g', 0, none⟩) (is.length + 1) cap) (is.length + 1) (is.map It.pt ++ [i.pt]))
    (hg : (w.alloc o).grownBy w' (some gm)) (hor : (some gm : Option Nat) = some g' ∨ g' = (w.alloc o).heap.size) : Rows2 w' base F g' cap gh ch (is ++ [i]) js ∧ But gm w w' := by
  have hb := but_grown hg
  have hgh := (h.had.lt gh rfl).2
  have hor' : g' = gm ∨ g' = w.heap.size + 1 := by
    rcases hor with e | e
    · injection e with e; exact .inl e.symm
    · exact .inr (by simpa using e)
  refine ⟨⟨by simpa using ho, own_same h.had (fun b e => ?_), fun e => ?_, h.hF, ?_, fun b hb' => Nat.lt_of_lt_of_le (h.lt b hb') hb.size⟩, hb⟩
  · have : gh = b := by simpa [Value.ownBlock] using e
    subst this
    exact hb.block _ hgh (fun e => h.ne e.symm)
  · rcases hor' with rfl | rfl
    · exact h.mF e
    · have := h.lt _ e; omega
  · rcases hor' with rfl | rfl
    · exact h.ne
    · omega
theorem Rows2.pushH (h : Rows2 w base F gm cm gh ch is js) {o : Obj} {g' cap : Nat} (i : It) (ho : w'.ownsRow base 22 1 (.slice (some ⟨g', 0, none⟩) (js.length + 1) cap) (js.length + 1) (js.map It.sl ++ [i.sl]))
    (hg : (w.alloc o).grownBy w' (some gh)) (hor : (some gh : Option Nat) = some g' ∨ g' = (w.alloc o).heap.size) : Rows2 w' base F gm cm g' cap is (js ++ [i]) ∧ But gh w w' := by
  have hb := but_grown hg
  have hgm := (h.made.lt gm rfl).2
  have hor' : g' = gh ∨ g' = w.heap.size + 1 := by
    rcases hor with e | e
    · injection e with e; exact .inl e.symm
    · exact .inr (by simpa using e)
  refine ⟨⟨own_same h.made (fun b e => ?_), by simpa using ho, h.mF, fun e => ?_, ?_, fun b hb' => Nat.lt_of_lt_of_le (h.lt b hb') hb.size⟩, hb⟩
  · have : gm = b := by simpa [Value.ownBlock] using e
    subst this
    exact hb.block _ hgm h.ne
  · rcases hor' with rfl | rfl
    · exact h.hF e
    · have := h.lt _ e; omega
  · rcases hor' with rfl | rfl
    · exact h.ne
    · omega
theorem EachI.below (h : EachI w F i) (hB : Below w.heap.size w w') : EachI w' F i := ⟨h.tab.below hB, h.lst.below hB⟩
theorem EachI.mono (h : EachI w F i) (hF : ∀ b, F b → b < w.heap.size → F' b) : EachI w F' i := ⟨h.tab.mono hF, h.lst.mono hF⟩
theorem EachI.but {G : Nat} (h : EachI w F i) (hB : But G w w') (hG : ¬ F G) : EachI w' F i := ⟨h.tab.but hB (fun b hb _ e => hG (e ▸ hb)), h.lst.but hB (fun b hb _ e => hG (e ▸ hb))⟩
theorem Tab.but' {G : Nat} {v : Value} {ps : List Pc} (h : Tab w F v ps) (hB : But G w w') (hG : ¬ F G) : Tab w' F v ps := h.but hB (fun b hb _ e => hG (e ▸ hb))
theorem Lst.but' {G : Nat} {A : Option Addr} {n c : Nat} {zs : List ByteArray} (h : Lst w F A n c zs) (hB : But G w w') (hG : ¬ F G) : Lst w' F A n c zs := h.but hB (fun b hb _ e => hG (e ▸ hb))
theorem Rows2.cellM (h : Rows2 w base F gm cm gh ch is js) {k : Nat} (hk : is[k]? = some i) : w.cell? ⟨gm, k, none⟩ = some (.pointer (some ⟨i.b, 0, none⟩)) := by
  have hl := (List.getElem?_eq_some_iff.1 hk).1
  rw [h.made.cellAt k (by omega), List.getElem?_map, hk]; rfl
theorem Rows2.cellH (h : Rows2 w base F gm cm gh ch is js) {k : Nat} (hk : js[k]? = some i) : w.cell? ⟨gh, k, none⟩ = some (.slice i.A i.n i.c) := by
  have hl := (List.getElem?_eq_some_iff.1 hk).1
  rw [h.had.cellAt k (by omega), List.getElem?_map, hk]; rfl
end
theorem info27 : (Try.prog.info? 27).map (fun i => (i.zero, i.size, i.bytes)) = some (some (.pointer none), 1, 8) := by kernel_rfl
theorem one_ptr (b : Nat) : ∀ u ∈ [Value.pointer (some ⟨b, 0, none⟩)], u.oneCell' = true := by intro u hu; simp only [List.mem_singleton] at hu; subst hu; rfl
theorem one_sl (A : Option Addr) (n c : Nat) : ∀ u ∈ [Value.slice A n c], u.oneCell' = true := by intro u hu; simp only [List.mem_singleton] at hu; subst hu; rfl
end Go.Proofs.Ytpopnplncgpfkaa.pce
