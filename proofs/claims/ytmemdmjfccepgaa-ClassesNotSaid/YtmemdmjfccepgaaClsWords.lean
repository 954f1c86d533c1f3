/- Arrays of 256 bools in memory: a block of their own; what stays of it. -/
import Derived.Test.YtmemdmjfccepgaaWords
import Derived.Test.YtmemdmjfccepgaaClsPure
import Derived.Deep.MidRow
import Derived.OwnWalk
import Derived.Laws.NewBlocks
namespace Go.Proofs.Ytmemdmjfccepgaa.cls
open Go.RowKit Go.Lib
set_option linter.unusedVariables false
set_option linter.unusedSimpArgs false
set_option linter.unnecessarySimpa false
set_option linter.unusedSectionVars false

/-- The cells of a set. -/
def arrL (f : Nat → Bool) : List Value := (List.range 256).map fun i => Value.bool (f i)
def arr (f : Nat → Bool) : Array Value := (arrL f).toArray
def upd (f : Nat → Bool) (i : Nat) (x : Bool) : Nat → Bool := fun j => if j = i then x else f j
theorem arrL_len (f : Nat → Bool) : (arrL f).length = 256 := by simp [arrL]
theorem arr_size (f : Nat → Bool) : (arr f).size = 256 := by simp [arr, arrL]
theorem arrL_get (f : Nat → Bool) (i : Nat) (h : i < 256) : (arrL f)[i]? = some (.bool (f i)) := by simp [arrL, h]
theorem arr_get (f : Nat → Bool) (i : Nat) (h : i < 256) : (arr f)[i]? = some (.bool (f i)) := by simp [arr, arrL, h]
theorem arr_ext {f g : Nat → Bool} (h : ∀ i, i < 256 → f i = g i) : arr f = arr g := by
  unfold arr arrL
  congr 1
  exact List.map_congr_left fun i hi => by rw [h i (List.mem_range.1 hi)]
theorem arr_inj {f g : Nat → Bool} (h : arr f = arr g) (i : Nat) (hi : i < 256) : f i = g i := by
  have := arr_get f i hi
  rw [h, arr_get g i hi] at this
  injection this with this
  injection this with this
  exact this.symm
theorem arr_set (f : Nat → Bool) (i : Nat) (x : Bool) (h : i < 256) : (arr f).setIfInBounds i (.bool x) = arr (upd f i x) := by
  apply Array.ext_getElem?
  intro j
  rw [Array.getElem?_setIfInBounds]
  by_cases hj : j < 256
  · rw [arr_get (upd f i x) j hj]
    by_cases hij : i = j
    · subst hij
      rw [if_pos rfl, if_pos (by rw [arr_size]; exact h)]
      simp [upd]
    · rw [if_neg hij, arr_get f j hj]
      simp [upd, Ne.symm hij]
  · have e1 : (arr (upd f i x))[j]? = none := by rw [Array.getElem?_eq_none]; rw [arr_size]; omega
    have e2 : (arr f)[j]? = none := by rw [Array.getElem?_eq_none]; rw [arr_size]; omega
    rw [e1, e2]
    split
    · rename_i hij; subst hij; rw [if_neg (by rw [arr_size]; omega)]
    · rfl
theorem arr_one (f : Nat → Bool) : ∀ v ∈ arr f, v.oneCell' = true := by
  intro v hv
  simp only [arr, arrL, List.mem_toArray, List.mem_map] at hv
  obtain ⟨i, _, rfl⟩ := hv
  rfl

/-- Block b is the array f. -/
def Arr (w : World) (b : Nat) (f : Nat → Bool) : Prop := w.heap[b]? = some (.cells (arr f) 22)
/-- Block b alone has turned. -/
structure But (b : Nat) (w w' : World) : Prop where
  os : w'.os = w.os
  tape : w'.tape = w.tape
  output : w'.output = w.output
  size : w'.heap.size = w.heap.size
  block : ∀ k, k ≠ b → w'.heap[k]? = w.heap[k]?
section
variable {w w' w'' : World} {b n : Nat} {f g : Nat → Bool}
theorem But.refl : But b w w := ⟨rfl, rfl, rfl, rfl, fun _ _ => rfl⟩
theorem But.trans (h : But b w w') (k : But b w' w'') : But b w w'' := ⟨k.os.trans h.os, k.tape.trans h.tape, k.output.trans h.output, k.size.trans h.size, fun i hi => (k.block i hi).trans (h.block i hi)⟩
theorem But.below (h : But b w w') (hn : n ≤ b) : Below n w w' := ⟨h.os, h.tape, h.output, by rw [h.size]; exact Nat.le_refl _, fun k hk => h.block k (by omega)⟩
theorem But.drewN (h : But b w w') (q : Nat) : But b w (w'.drewN q) := ⟨h.os, h.tape, h.output, h.size, h.block⟩
theorem But.drew (h : But b w w') : But b w w'.drew := ⟨h.os, h.tape, h.output, h.size, h.block⟩
theorem Arr.lt (h : Arr w b f) : b < w.heap.size := (Array.getElem?_eq_some_iff.1 h).1
theorem Arr.drew (h : Arr w b f) : Arr w.drew b f := h
theorem Arr.drewN (h : Arr w b f) (q : Nat) : Arr (w.drewN q) b f := h
theorem Arr.alloc (h : Arr w b f) (o : Obj) : Arr (w.alloc o) b f := (Below.heap_alloc w o b h.lt).trans h
theorem Arr.keep (h : Arr w b f) (hB : Below n w w') (hn : b < n) : Arr w' b f := (hB.block b hn).trans h
theorem Arr.but {c : Nat} (h : Arr w b f) (hB : But c w w') (hn : b ≠ c) : Arr w' b f := (hB.block b hn).trans h
theorem Arr.cell (h : Arr w b f) {i : Nat} (hi : i < 256) : w.cell? ⟨b, i, none⟩ = some (.bool (f i)) := by
  unfold Arr at h
  simp only [World.cell?, h]
  exact arr_get f i hi
theorem Arr.frozen (h : Arr w b f) (i : Nat) : w.frozen? ⟨b, i, none⟩ = false := by
  unfold Arr at h
  simp [World.frozen?, h]
end
end Go.Proofs.Ytmemdmjfccepgaa.cls
