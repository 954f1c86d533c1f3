/- Grids: Text, of the program and of the document; a list of texts. -/
import Derived.Test.YteekihhngjbjgaaGrdClone
import Derived.Test.YteekihhngjbjgaaGrdSame
import Derived.Test.YteekihhngjbjgaaSame
namespace Go.Proofs.Yteekihhngjbjgaa.grd
open Go.RowKit Go.Lib
set_option linter.unusedVariables false
set_option linter.unusedSimpArgs false
set_option linter.unnecessarySimpa false
set_option linter.unusedSectionVars false

theorem made_strs (n : Nat) : (madeCells (Value.string ⟨#[]⟩).cells (n * 1)).toList = List.replicate n (Value.string ⟨#[]⟩) := by
  rw [Nat.mul_one, show (Value.string ⟨#[]⟩).cells = #[.string ⟨#[]⟩] from rfl, toList_madeCells_one]
/-- The first k rows are told. -/
structure Told (hs : Array Value) (ls : List (List UInt8)) (k n : Nat) : Prop where
  done : ∀ (i : Nat) l, i < k → ls[i]? = some l → hs[i]? = some (.string (B l))
  rest : ∀ i, k ≤ i → i < n → hs[i]? = some (.string ⟨#[]⟩)
theorem Told.step {hs : Array Value} {ls : List (List UInt8)} {k n : Nat} (h : Told hs ls k n) (hk : k < n) (l : List UInt8) (hl : ls[k]? = some l) : Told (hs.setIfInBounds k (.string (B l))) ls (k + 1) n := by
  have hlt : k < hs.size := (Array.getElem?_eq_some_iff.1 (h.rest k (Nat.le_refl _) hk)).1
  refine ⟨fun i l' hi hl' => ?_, fun i h1 h2 => ?_⟩
  · rw [Array.getElem?_setIfInBounds]
    by_cases e : k = i
    · subst e
      rw [hl, Option.some.injEq] at hl'
      rw [if_pos rfl, if_pos hlt, hl']
    · rw [if_neg e]; exact h.done i l' (by omega) hl'
  · rw [Array.getElem?_setIfInBounds, if_neg (by omega)]
    exact h.rest i (by omega) h2
theorem text_start {w W : World} {X : Array Value} {n : Nat} {ls : List (List UInt8)} (hown : W.ownsRow (w.heap.size + 1) 9 1 (.slice (some ⟨(w.alloc (.cells X 34)).heap.size, 0, none⟩) n n) n (List.replicate n (Value.string ⟨#[]⟩)))
    (hg : (w.alloc (.cells X 34)).grownBy W none) :
    At W w.heap.size 34 X ∧ Below w.heap.size w W ∧ w.heap.size + 1 < W.heap.size ∧ ∃ hs, At W (w.heap.size + 1) 9 hs ∧ Told hs ls 0 n := by
  have hs1 : (w.alloc (.cells X 34)).heap.size = w.heap.size + 1 := by simp
  have hgr := (Below.refl (w.heap.size + 1) _).grown hg (by omega) (fun k e => by cases e)
  obtain ⟨g, cs, e, _, h1, h2⟩ := own_block' hown
  injection e with e _
  rw [hs1] at e
  subst e
  exact ⟨At.keep (At.new w 34 X) hgr (by omega), ((Below.refl _ _).alloc (Nat.le_refl _) _).trans (hgr.mono (by omega)), h1.lt, cs, h1, ⟨fun i l hi => absurd hi (Nat.not_lt_zero _), fun i _ hi => h2 i _ (by rw [List.getElem?_replicate, if_pos hi])⟩⟩
theorem told_srd {w : World} {h : Nat} {hs : Array Value} {ls : List (List UInt8)} (hA : At w h 9 hs) (hT : Told hs ls ls.length ls.length) : SRd w w.heap.size (some ⟨h, 0, none⟩) (ls.map B) := fun hn => by
  refine ⟨h, 0, rfl, hA.lt, fun j hj => ?_⟩
  rw [List.length_map] at hj
  rw [Nat.zero_add, hA.cell j, hT.done j _ hj (List.getElem?_eq_getElem hj)]
  simp [List.getD, List.getElem?_eq_getElem hj]
end Go.Proofs.Yteekihhngjbjgaa.grd
