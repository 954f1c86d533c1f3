/- Files, the laws: lists of things that are done. -/
import Derived.Test.YtlbhegicapggeaaGreatFilHeld
namespace Go.Proofs.YtlbhegicapggeaaGreat.fil
open Go.RowKit Go.Lib Go.Maps Go.WideMaps
set_option linter.unusedVariables false
set_option linter.unusedSimpArgs false
set_option linter.unnecessarySimpa false
set_option linter.unusedSectionVars false

theorem LRd.belowN {w w' : World} {lo hi : Nat} {A : Option Addr} {xs : List Value} (h : LRd w lo hi A xs) (hB : Below hi w w') : LRd w' lo hi A xs := fun h0 => by
  obtain ⟨b, off, e, h1, h2, h3⟩ := h h0
  exact ⟨b, off, e, h1, h2, fun j u hj => (hB.cell (p := ⟨b, off + j, none⟩) h2).trans (h3 j u hj)⟩

def flat (ds : List Dt) : List Value := ds.flatMap Dt.cells
theorem flat_length (ds : List Dt) : (flat ds).length = ds.length * 6 := by
  induction ds with
  | nil => rfl
  | cons d ds ih => simp only [flat, List.flatMap_cons, List.length_append] at ih ⊢; rw [ih, List.length_cons]; simp [Dt.cells]; omega
theorem flat_get : ∀ (ds : List Dt) (i j : Nat) (d : Dt), ds[i]? = some d → j < 6 → (flat ds)[i * 6 + j]? = d.cells[j]?
  | e :: ds, 0, j, d, h, hj => by
    simp at h; subst h
    simp only [flat, List.flatMap_cons]
    rw [List.getElem?_append_left (by simp [Dt.cells]; omega)]
    congr 1; omega
  | e :: ds, i + 1, j, d, h, hj => by
    have ih := flat_get ds i j d (by simpa using h) hj
    simp only [flat, List.flatMap_cons] at ih ⊢
    rw [List.getElem?_append_right (by simp [Dt.cells]; omega)]
    rw [← ih]
    congr 1
    simp [Dt.cells]; omega

/-- A list of things, read behind the address A, below block hi. -/
structure Dos (w : World) (hi : Nat) (A : Option Addr) (ds : List Dt) : Prop where
  cells : LRd w 0 hi A (flat ds)
  lists : ∀ d ∈ ds, LRd w 0 hi d.kA (iv d.k)
  ok : ∀ d ∈ ds, d.Ok
theorem Dos.belowN {w w' : World} {hi : Nat} {A : Option Addr} {ds : List Dt} (h : Dos w hi A ds) (hB : Below hi w w') : Dos w' hi A ds :=
  ⟨h.cells.belowN hB, fun d hd => (h.lists d hd).belowN hB, h.ok⟩
theorem Dos.at {w : World} {hi : Nat} {A : Option Addr} {ds : List Dt} (h : Dos w hi A ds) {i : Nat} {d : Dt} (hd : ds[i]? = some d) : ∃ b off, A = some ⟨b, off, none⟩ ∧ b < hi ∧
    w.cell? ⟨b, off + i * 6, none⟩ = some (.int .u8 d.what) ∧ w.cell? ⟨b, off + i * 6 + 1, none⟩ = some (.string d.a) ∧ w.cell? ⟨b, off + i * 6 + 2, none⟩ = some (.string d.b) ∧ w.cell? ⟨b, off + i * 6 + 3, none⟩ = some (.string d.t) ∧
    w.cell? ⟨b, off + i * 6 + 4, none⟩ = some (.int .i64 d.n) ∧ w.cell? ⟨b, off + i * 6 + 5, none⟩ = some (.slice d.kA d.k.length d.kc) := by
  have hi' : i < ds.length := (List.getElem?_eq_some_iff.1 hd).1
  obtain ⟨b, off, e, _, h2, h3⟩ := h.cells (by rw [flat_length]; omega)
  have g : ∀ j, j < 6 → ∀ u, d.cells[j]? = some u → w.cell? ⟨b, off + i * 6 + j, none⟩ = some u := fun j hj u hu => by
    rw [Nat.add_assoc]
    exact h3 _ u ((flat_get ds i j d hd hj).trans hu)
  exact ⟨b, off, e, h2, g 0 (by omega) _ rfl, g 1 (by omega) _ rfl, g 2 (by omega) _ rfl, g 3 (by omega) _ rfl, g 4 (by omega) _ rfl, g 5 (by omega) _ rfl⟩

/-- What Much says: yes; or no, and it is not. -/
def MuchSays (ds : List Dt) (w : World) (e : Ending) (w' : World) : Prop :=
  (e = .returned (.bool true) ∨ (e = .returned (.bool false) ∧ ds.length ≤ 120 ∧ ∀ d ∈ ds, d.k.length ≤ 60)) ∧ Below w.heap.size w w'

set_option maxHeartbeats 2000000 in
set_option maxRecDepth 100000 in
theorem much_is (A : Option Addr) (c n hi : Nat) (ds : List Dt) (w : World) (hn : n = ds.length) (hnm : n ≤ 9223372036854775807) (hhi : hi ≤ w.heap.size) (h : Dos w hi A ds) :
    Calls Tryz.prog 4 #[.slice A n c] w (MuchSays ds w) := by
  have HN := Lib.hid hn
  have HD := Lib.hid h
  clear hn h
  go_enter Tryz.func4, Tryz.ntmps4
  go_wp2
  go_loopg [3, 4] n (fun g s3 s4 wr => ∃ (i : Nat) (z : Int), s4 = .int .i64 i ∧ s3 = .int .i64 z ∧ 0 ≤ z ∧ z ≤ 50000 ∧ i ≤ n ∧ n - i ≤ g ∧ Below w.heap.size w wr ∧ Hid (∀ d ∈ ds.take i, d.k.length ≤ 60))
  case atStart => exact ⟨0, 50000, rfl, rfl, by omega, by omega, Nat.zero_le _, by omega, Below.refl _ _, Lib.hid (by simp)⟩
  case round =>
    obtain ⟨i, z, rfl, rfl, hz0, hz1, hi', hg, hB, HK⟩ := hrel
    have hsz := hB.size
    by_cases hlt : i < n
    · obtain ⟨d, hd⟩ : ∃ d, ds[i]? = some d := ⟨ds[i]'(by rw [← HN.out]; exact hlt), List.getElem?_eq_getElem _⟩
      obtain ⟨b, off, rfl, hb, g0, g1, g2, g3, g4, g5⟩ := (HD.out.belowN (hB.mono hhi)).at hd
      have hok := HD.out.ok d (List.mem_of_getElem? hd)
      have b1 : d.a.size ≤ 9223372036854775807 := by have := hok.a; unfold maxLen at this; omega
      have b2 : d.b.size ≤ 9223372036854775807 := by have := hok.b; unfold maxLen at this; omega
      have b3 : d.t.size ≤ 9223372036854775807 := by have := hok.t; unfold maxLen at this; omega
      have b4 : d.k.length ≤ 9223372036854775807 := by have := hok.k; have := hok.kc; unfold maxLen at this; omega
      have HT : Hid (d.k.length ≤ 60 → ∀ d ∈ ds.take (i + 1), d.k.length ≤ 60) := Lib.hid fun hk d' hd' => by
        rw [List.take_add_one, hd] at hd'
        rcases List.mem_append.1 hd' with h | h
        · exact HK.out d' h
        · simp at h; rw [h]; exact hk
      clear hok hd
      generalize d.a = xa at *
      generalize d.b = xb at *
      generalize d.t = xt at *
      go_wp2
      all_goals first
        | (go_ret; exact ⟨.inl rfl, hB.alloc hsz _⟩)
        | (go_roundg (n - (i + 1))
           case measure => omega
           case rel => exact ⟨i + 1, z - min (xt.size : Int) 60000, by go_num, rfl, by omega, by omega, by omega, by omega, hB.alloc hsz _, Lib.hid (HT.out (by omega))⟩)
    · obtain rfl : i = n := by omega
      have e : ds.take i = ds := List.take_of_length_le (by rw [← HN.out]; exact Nat.le_refl _)
      by_cases h120 : i ≤ 120
      · have hd : decide ((120 : Int) < (i : Int)) = false := by simp; omega
        go_wp2
        go_ret
        exact ⟨.inr ⟨rfl, by rw [← HN.out]; exact h120, by have := HK.out; rw [e] at this; exact this⟩, hB⟩
      · have hd : decide ((120 : Int) < (i : Int)) = true := by simp; omega
        go_wp2
        go_ret
        exact ⟨.inl rfl, hB⟩
end Go.Proofs.YtlbhegicapggeaaGreat.fil
