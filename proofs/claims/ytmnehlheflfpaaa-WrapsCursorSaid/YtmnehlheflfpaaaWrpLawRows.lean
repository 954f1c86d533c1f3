/- WrapsRows. -/
import Derived.Test.YtmnehlheflfpaaaWrpDoes
import Derived.Test.YtmnehlheflfpaaaWrpRefRows
import Derived.Test.YtmnehlheflfpaaaWrpRefAt
namespace Go.Proofs.Ytmnehlheflfpaaa.wrp
open Go.RowKit Go.Lib
set_option linter.unusedVariables false
set_option linter.unusedSimpArgs false
set_option linter.unnecessarySimpa false
set_option linter.unusedSectionVars false

/-- How many rows, at any number of columns. -/
def rowsI (l : List UInt8) (c : Int) : Nat := if c < 1 then 0 else rowsN (cellsL l).length c.toNat
def rowI (l : List UInt8) (c k : Int) : List UInt8 := if c < 1 ∨ k < 0 then [] else rowL (cellsL l) c.toNat k.toNat
def atI (l : List UInt8) (c i : Int) : Nat × Nat := if c < 1 then (0, 0) else (placeL l c.toNat i / c.toNat, placeL l c.toNat i % c.toNat)
theorem rows_any (l : List UInt8) (c : Int) (hl : l.length ≤ 100000) (w : World) : Calls Try.prog 15 #[.string (B l), .int .i64 c] w fun e w' => e = .returned (.int .i64 (rowsI l c : Nat)) ∧ Below w.heap.size w w' := by
  unfold rowsI
  by_cases h : c < 1
  · rw [if_pos h]; exact rowsOf_no l c h w
  · rw [if_neg h]
    have e : (c.toNat : Int) = c := by omega
    have := rowsOf_yes l c.toNat (by omega) hl w
    rwa [e] at this
theorem refRows_any (l : List UInt8) (c : Int) (hl : l.length ≤ 100000) (w : World) : Calls Try.prog 16 #[.string (B l), .int .i64 c] w fun e w' => e = .returned (.int .i64 (rowsI l c : Nat)) ∧ Below w.heap.size w w' := by
  unfold rowsI
  by_cases h : c < 1
  · rw [if_pos h]; exact refRows_no l c h w
  · rw [if_neg h]
    have e : (c.toNat : Int) = c := by omega
    have := refRows_yes l c.toNat (by omega) hl w
    rwa [e] at this
theorem row_any (l : List UInt8) (c k : Int) (hl : l.length ≤ 100000) (w : World) : Calls Try.prog 17 #[.string (B l), .int .i64 c, .int .i64 k] w fun e w' => e = .returned (.string (B (rowI l c k))) ∧ Below w.heap.size w w' := by
  unfold rowI
  by_cases h : c < 1 ∨ k < 0
  · rw [if_pos h]; exact row_no l c k h w
  · rw [if_neg h]
    have e : (c.toNat : Int) = c := by omega
    have e2 : (k.toNat : Int) = k := by omega
    have := row_yes l c.toNat k.toNat (by omega) hl w
    rwa [e, e2] at this
theorem refRow_any (l : List UInt8) (c k : Int) (hl : l.length ≤ 100000) (w : World) : Calls Try.prog 18 #[.string (B l), .int .i64 c, .int .i64 k] w fun e w' => e = .returned (.string (B (rowI l c k))) ∧ Below w.heap.size w w' := by
  unfold rowI
  by_cases h : c < 1
  · rw [if_pos (.inl h)]; exact refRow_no l c k h hl w
  · have e : (c.toNat : Int) = c := by omega
    by_cases h2 : k < 0
    · rw [if_pos (.inr h2)]
      have := refRow_neg l c.toNat k (by omega) h2 hl w
      rwa [e] at this
    · rw [if_neg (by omega)]
      have e2 : (k.toNat : Int) = k := by omega
      have := refRow_yes l c.toNat k.toNat (by omega) hl w
      rwa [e, e2] at this
theorem at_any (l : List UInt8) (c i : Int) (hl : l.length ≤ 100000) (w : World) : Calls Try.prog 13 #[.string (B l), .int .i64 c, .int .i64 i] w fun e w' => e = .returned (.tuple #[.int .i64 ((atI l c i).1 : Nat), .int .i64 ((atI l c i).2 : Nat)]) ∧ Below w.heap.size w w' := by
  unfold atI
  by_cases h : c < 1
  · rw [if_pos h]; exact at_no l c i h w
  · rw [if_neg h]
    have e : (c.toNat : Int) = c := by omega
    have := at_yes l c.toNat i (by omega) hl w
    rw [e] at this
    exact this
theorem refAt_any (l : List UInt8) (c i : Int) (hl : l.length ≤ 100000) (w : World) : Calls Try.prog 14 #[.string (B l), .int .i64 c, .int .i64 i] w fun e w' => e = .returned (.tuple #[.int .i64 ((atI l c i).1 : Nat), .int .i64 ((atI l c i).2 : Nat)]) ∧ Below w.heap.size w w' := by
  unfold atI
  by_cases h : c < 1
  · rw [if_pos h]; exact refAt_no l c i h w
  · rw [if_neg h]
    have e : (c.toNat : Int) = c := by omega
    have := refAt_yes l c.toNat i (by omega) hl w
    rw [e] at this
    exact this
/-- Since w nothing has turned. -/
def More (n : Nat) (w W : World) : Prop := Below n w W
theorem more_drew {n : Nat} {w W : World} (h : More n w W) : More n w W.drew := Below.drew h
theorem more_trans {w W W' : World} (h : More w.heap.size w W) (hB : Below W.heap.size W W') : More w.heap.size w W' := Below.trans h (hB.mono h.size)
theorem and_more {A : Prop} {n : Nat} {wb W : World} (h : A ∧ More n wb W) : More n wb W := h.2
set_option maxHeartbeats 4000000 in
set_option maxRecDepth 100000 in
theorem law_rows (l : List UInt8) (c x y : Int) (w : World) : Calls Try.prog 4 #[.string (B l), .int .i64 c, .agg #[.int .i64 x, .int .i64 y]] w fun e w' => e = .returned (.bool true) ∧ Below w.heap.size w w' := by
  obtain ⟨z, hz⟩ : ∃ z, z = l.length := ⟨_, rfl⟩
  by_cases hl : 500 < l.length
  · obtain ⟨s, hs⟩ : ∃ s, s = B l := ⟨_, rfl⟩
    have hsz : s.size = z := by rw [hs, B_size, hz]
    rw [← hs]
    rw [← hz] at hl
    clear hs hz
    have HB : Hid (Below w.heap.size w (w.alloc (.cells #[.int .i64 x, .int .i64 y] 28))) := Lib.hid ((Below.refl _ _).alloc (Nat.le_refl _) _)
    go_enter Try.func4, Try.ntmps4
    go_wp2
    go_ret
    exact ⟨rfl, HB.out⟩
  · have C1 := Lib.hid (fun w => at_any l c y (by omega) w)
    have C2 := Lib.hid (fun w => refAt_any l c y (by omega) w)
    have C3 := Lib.hid (fun w => rows_any l c (by omega) w)
    have C4 := Lib.hid (fun w => refRows_any l c (by omega) w)
    have C5 := Lib.hid (fun w => row_any l c x (by omega) w)
    have C6 := Lib.hid (fun w => refRow_any l c x (by omega) w)
    have C7 := Lib.hid (fun w => does_is w)
    generalize (atI l c y).1 = a1 at C1 C2
    generalize (atI l c y).2 = a2 at C1 C2
    generalize rowsI l c = rn at C3 C4
    generalize B (rowI l c x) = rt at C5 C6
    obtain ⟨s, hs⟩ : ∃ s, s = B l := ⟨_, rfl⟩
    have hsz : s.size = z := by rw [hs, B_size, hz]
    rw [← hs] at C1 C2 C3 C4 C5 C6 ⊢
    rw [← hz] at hl
    clear hs hz
    go_enter Try.func4, Try.ntmps4
    go_wp2_with fail
    go_at_call 13
    have HB0 : Below w.heap.size w (w.alloc (.cells #[.int .i64 x, .int .i64 y] 28)) := (Below.refl _ _).alloc (Nat.le_refl _) _
    have hA0 := At.new w 28 #[.int .i64 x, .int .i64 y]
    refine (C1.out _).mono ?_
    rintro e w1 ⟨rfl, b1⟩
    have hA1 := hA0.keep b1 hA0.lt
    have HB1 : Hid (Below w.heap.size w w1) := Lib.hid (HB0.trans (b1.mono HB0.size))
    have e1 : w1.cell? ⟨w.heap.size, 1, none⟩ = some (.int .i64 y) := hA1.cell 1
    have HA1 := Lib.hid hA1
    clear hA0 HB0 hA1 b1
    go_wp2_with fail
    go_at_call 14
    refine (C2.out _).mono ?_
    rintro e w2 ⟨rfl, b2⟩
    have HA2 := Lib.hid (HA1.out.keep b2 HA1.out.lt)
    have HB2 : Hid (Below w.heap.size w w2) := Lib.hid (HB1.out.trans (b2.mono HB1.out.size))
    clear e1 b2 HA1 HB1 C1 C2
    have SK : Hid (∀ W, More w2.heap.size w2 W → W.cell? ⟨w.heap.size, 0, none⟩ = some (.int .i64 x) ∧ More w2.heap.size w2 W) := Lib.hid fun W hM => ⟨(HA2.out.keep hM HA2.out.lt).cell 0, hM⟩
    have S0 := SK.out w2 (Below.refl _ _)
    go_wp2_with fail
    go_region_held3 (fun W => W.cell? ⟨w.heap.size, 0, none⟩ = some (.int .i64 x) ∧ More w2.heap.size w2 W)
      (first | assumption | exact SK.out _ (by assumption) | exact SK.out _ (more_drew (Below.refl _ _)))
      (first
        | (go_at_call 15; (with_reducible refine (C3.out _).mono ?_); rintro e w' ⟨rfl, hB3⟩; have hM := more_trans (and_more (by assumption)) hB3)
        | (go_at_call 16; (with_reducible refine (C4.out _).mono ?_); rintro e w' ⟨rfl, hB4⟩; have hM := more_trans (and_more (by assumption)) hB4)
        | (go_at_call 17; (with_reducible refine (C5.out _).mono ?_); rintro e w' ⟨rfl, hB5⟩; have hM := more_trans (and_more (by assumption)) hB5)
        | (go_at_call 18; (with_reducible refine (C6.out _).mono ?_); rintro e w' ⟨rfl, hB6⟩; have hM := more_trans (and_more (by assumption)) hB6)
        | (go_at_call 12; (with_reducible refine (C7.out _).mono ?_); rintro e w' ⟨rfl, hB7⟩; have hM := more_trans (and_more (by assumption)) hB7)
        | fail "NONE")
    all_goals
      have hfin := and_more (by assumption)
      go_wp2
      go_ret
      exact ⟨rfl, HB2.out.trans (Below.mono hfin HB2.out.size)⟩
end Go.Proofs.Ytmnehlheflfpaaa.wrp
