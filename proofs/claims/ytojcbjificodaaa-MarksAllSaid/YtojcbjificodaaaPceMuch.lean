/- Pieces: a list of splices that came in; the law's Much. -/
import Derived.Test.YtojcbjificodaaaPceRef
namespace Go.Proofs.Ytojcbjificodaaa.pce
open Go.RowKit Go.Lib
set_option linter.unusedVariables false
set_option linter.unusedSimpArgs false
set_option linter.unnecessarySimpa false
set_option linter.unusedSectionVars false

/-- A splice: where, how many go, what is laid there, and where that stands. -/
structure Ct where
  a : Int
  d : Int
  A : Option Addr
  c : Nat
  ins : List ByteArray
def Ct.cells (t : Ct) : List Value := [.int .i64 t.a, .int .i64 t.d, .slice t.A t.ins.length t.c]
def flat (ts : List Ct) : List Value := ts.flatMap Ct.cells
theorem flat_length (ts : List Ct) : (flat ts).length = ts.length * 3 := by
  induction ts with
  | nil => rfl
  | cons d ds ih => simp only [flat, List.flatMap_cons, List.length_append] at ih ⊢; rw [ih, List.length_cons]; simp [Ct.cells]; omega
theorem flat_get : ∀ (l : List Ct) (i j : Nat) (d : Ct), l[i]? = some d → j < 3 → (flat l)[i * 3 + j]? = d.cells[j]?
  | e :: ds, 0, j, d, h, hj => by
    simp at h; subst h
    simp only [flat, List.flatMap_cons]
    rw [List.getElem?_append_left (by simp [Ct.cells]; omega)]
    congr 1; omega
  | e :: ds, i + 1, j, d, h, hj => by
    have ih := flat_get ds i j d (by simpa using h) hj
    simp only [flat, List.flatMap_cons] at ih ⊢
    rw [List.getElem?_append_right (by simp [Ct.cells]; omega)]
    rw [← ih]
    congr 1
    simp [Ct.cells]; omega
structure CtOk (w : World) (F : Nat → Prop) (t : Ct) : Prop where
  a1 : -9223372036854775808 ≤ t.a
  a2 : t.a ≤ 9223372036854775807
  d1 : -9223372036854775808 ≤ t.d
  d2 : t.d ≤ 9223372036854775807
  lst : Lst w F t.A t.ins.length t.c t.ins
  size : ∀ z ∈ t.ins, z.size ≤ maxLen
  few : t.ins.length ≤ maxLen
/-- The splices ts behind A. -/
structure Cuts (w : World) (F : Nat → Prop) (A : Option Addr) (ts : List Ct) : Prop where
  row : VRd w F A (flat ts)
  each : ∀ t ∈ ts, CtOk w F t
section
variable {w w' : World} {F F' : Nat → Prop} {A : Option Addr} {ts : List Ct} {t : Ct}
theorem CtOk.keep (h : CtOk w F t) (hk : ∀ b, F b → b < w.heap.size → w'.heap[b]? = w.heap[b]?) (hs : w.heap.size ≤ w'.heap.size) : CtOk w' F t := ⟨h.a1, h.a2, h.d1, h.d2, h.lst.keep hk hs, h.size, h.few⟩
theorem Cuts.keep (h : Cuts w F A ts) (hk : ∀ b, F b → b < w.heap.size → w'.heap[b]? = w.heap[b]?) (hs : w.heap.size ≤ w'.heap.size) : Cuts w' F A ts := ⟨h.row.keep hk hs, fun t ht => (h.each t ht).keep hk hs⟩
theorem Cuts.below (h : Cuts w F A ts) (hB : Below w.heap.size w w') : Cuts w' F A ts := h.keep (fun b _ hb => hB.block b hb) hB.size
/-- The cells of one of them. -/
theorem Cuts.at (h : Cuts w F A ts) {i : Nat} (hi : ts[i]? = some t) : ∃ b off, A = some ⟨b, off, none⟩ ∧ w.cell? ⟨b, off + i * 3, none⟩ = some (.int .i64 t.a) ∧ w.cell? ⟨b, off + i * 3 + 1, none⟩ = some (.int .i64 t.d) ∧ w.cell? ⟨b, off + i * 3 + 2, none⟩ = some (.slice t.A t.ins.length t.c) := by
  have hl := (List.getElem?_eq_some_iff.1 hi).1
  obtain ⟨b, off, e, _, _, hc⟩ := h.row (by rw [flat_length]; omega)
  refine ⟨b, off, e, ?_, ?_, ?_⟩
  · have := hc (i * 3 + 0) _ (by rw [flat_get ts i 0 t hi (by omega)]; rfl)
    simpa using this
  · have := hc (i * 3 + 1) _ (by rw [flat_get ts i 1 t hi (by omega)]; rfl)
    rwa [← Nat.add_assoc] at this
  · have := hc (i * 3 + 2) _ (by rw [flat_get ts i 2 t hi (by omega)]; rfl)
    rwa [← Nat.add_assoc] at this
end


end Go.Proofs.Ytojcbjificodaaa.pce
