/- Files, the laws: lists of things that are done. -/
import Derived.Test.YtlbhegicapggeaaFilHeld
namespace Go.Proofs.Ytlbhegicapggeaa.fil
open Go.RowKit Go.Lib Go.Maps Go.WideMaps
set_option linter.unusedVariables false
set_option linter.unusedSimpArgs false
set_option linter.unnecessarySimpa false
set_option linter.unusedSectionVars false

theorem LRd.belowN {w w' : World} {lo hi : Nat} {A : Option Addr} {xs : List Value} (h : LRd w lo hi A xs) (hB : Below hi w w') : LRd w' lo hi A xs := fun h0 => by
  obtain ⟨b, off, e, h1, h2, h3⟩ := h h0
  exact ⟨b, off, e, h1, h2, fun j u hj => (hB.cell (p := ⟨b, off + j, none⟩) h2).trans (h3 j u hj)⟩

def flat (ds : List Dt) : List Value := ds.flatMap Dt.cells
theorem flat_length (ds : List Dt) : (flat ds).length = ds.length * 6 := by
  induction ds with
  | nil => rfl
  | cons d ds ih => simp only [flat, List.flatMap_cons, List.length_append] at ih ⊢; rw [ih, List.length_cons]; simp [Dt.cells]; omega
theorem flat_get : ∀ (ds : List Dt) (i j : Nat) (d : Dt), ds[i]? = some d → j < 6 → (flat ds)[i * 6 + j]? = d.cells[j]?
  | e :: ds, 0, j, d, h, hj => by
    simp at h; subst h
    simp only [flat, List.flatMap_cons]
    rw [List.getElem?_append_left (by simp [Dt.cells]; omega)]
    congr 1; omega
  | e :: ds, i + 1, j, d, h, hj => by
    have ih := flat_get ds i j d (by simpa using h) hj
    simp only [flat, List.flatMap_cons] at ih ⊢
    rw [List.getElem?_append_right (by simp [Dt.cells]; omega)]
    rw [← ih]
    congr 1
    simp [Dt.cells]; omega

/-- A list of things, read behind the address A, below block hi. -/
structure Dos (w : World) (hi : Nat) (A : Option Addr) (ds : List Dt) : Prop where
  cells : LRd w 0 hi A (flat ds)
  lists : ∀ d ∈ ds, LRd w 0 hi d.kA (iv d.k)
  ok : ∀ d ∈ ds, d.Ok
theorem Dos.belowN {w w' : World} {hi : Nat} {A : Option Addr} {ds : List Dt} (h : Dos w hi A ds) (hB : Below hi w w') : Dos w' hi A ds :=
  ⟨h.cells.belowN hB, fun d hd => (h.lists d hd).belowN hB, h.ok⟩
theorem Dos.at {w : World} {hi : Nat} {A : Option Addr} {ds : List Dt} (h : Dos w hi A ds) {i : Nat} {d : Dt} (hd : ds[i]? = some d) : ∃ b off, A = some ⟨b, off, none⟩ ∧ b < hi ∧
    w.cell? ⟨b, off + i * 6, none⟩ = some (.int .u8 d.what) ∧ w.cell? ⟨b, off + i * 6 + 1, none⟩ = some (.string d.a) ∧ w.cell? ⟨b, off + i * 6 + 2, none⟩ = some (.string d.b) ∧ w.cell? ⟨b, off + i * 6 + 3, none⟩ = some (.string d.t) ∧
    w.cell? ⟨b, off + i * 6 + 4, none⟩ = some (.int .i64 d.n) ∧ w.cell? ⟨b, off + i * 6 + 5, none⟩ = some (.slice d.kA d.k.length d.kc) := by
  have hi' : i < ds.length := (List.getElem?_eq_some_iff.1 hd).1
  obtain ⟨b, off, e, _, h2, h3⟩ := h.cells (by rw [flat_length]; omega)
  have g : ∀ j, j < 6 → ∀ u, d.cells[j]? = some u → w.cell? ⟨b, off + i * 6 + j, none⟩ = some u := fun j hj u hu => by
    rw [Nat.add_assoc]
    exact h3 _ u ((flat_get ds i j d hd hj).trans hu)
  exact ⟨b, off, e, h2, g 0 (by omega) _ rfl, g 1 (by omega) _ rfl, g 2 (by omega) _ rfl, g 3 (by omega) _ rfl, g 4 (by omega) _ rfl, g 5 (by omega) _ rfl⟩

/-- What Much says: yes; or no, and it is not. -/
def MuchSays (ds : List Dt) (w : World) (e : Ending) (w' : World) : Prop :=
  (e = .returned (.bool true) ∨ (e = .returned (.bool false) ∧ ds.length ≤ 120 ∧ ∀ d ∈ ds, d.k.length ≤ 60)) ∧ Below w.heap.size w w'

end Go.Proofs.Ytlbhegicapggeaa.fil
