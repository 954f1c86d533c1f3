/- WrapsCells. -/
import Derived.Test.YtmnehlheflfpaaaWrpDoes
import Derived.Test.YtmnehlheflfpaaaWrpRefCells
namespace Go.Proofs.Ytmnehlheflfpaaa.wrp
open Go.RowKit Go.Lib
set_option linter.unusedVariables false
set_option linter.unusedSimpArgs false
set_option linter.unnecessarySimpa false
set_option linter.unusedSectionVars false

theorem places_len' (l : List UInt8) : (placesL l).length = l.length + 1 := by unfold placesL; rw [List.length_map, List.length_range]
theorem places_le (l : List UInt8) (n : Nat) (h : l.length ≤ n) : ∀ x ∈ placesL l, x ≤ 8 * n := fun x hx => by
  unfold placesL at hx
  obtain ⟨k, _, rfl⟩ := List.mem_map.1 hx
  have h1 := at_le l k
  have h2 := (cells_bound l).2
  omega
set_option maxHeartbeats 4000000 in
set_option maxRecDepth 100000 in
theorem law_cells (l : List UInt8) (w : World) : Calls Try.prog 3 #[.string (B l)] w fun e w' => e = .returned (.bool true) ∧ Below w.heap.size w w' := by
  obtain ⟨z, hz⟩ : ∃ z, z = l.length := ⟨_, rfl⟩
  by_cases hl : 3000 < l.length
  · obtain ⟨s, hs⟩ : ∃ s, s = B l := ⟨_, rfl⟩
    have hsz : s.size = z := by rw [hs, B_size, hz]
    rw [← hs]
    rw [← hz] at hl
    clear hs hz
    go_enter Try.func3, Try.ntmps3
    go_wp2
    go_ret
    exact ⟨rfl, Below.refl _ _⟩
  · have C1 := Lib.hid (fun w => cellsTell (cells_is l w (by omega)))
    have C2 := Lib.hid (fun w => cellsTell (refCells_is l w (by omega)))
    have HS : Hid (∀ A1 A2 c1 c2 W, IsInts W A1 (placesL l) → IsInts W A2 (placesL l) → Calls Try.prog 11 #[.slice A1 (z + 1) c1, .slice A2 (z + 1) c2] W fun e w' => e = .returned (.bool true) ∧ Below W.heap.size W w') := Lib.hid fun A1 A2 c1 c2 W h1 h2 => same_yes A1 A2 _ c1 c2 (placesL l) W h1 h2 (by rw [places_len', hz]) (by omega) (fun x hx => by have := places_le l 3000 (by omega) x hx; omega)
    obtain ⟨s, hs⟩ : ∃ s, s = B l := ⟨_, rfl⟩
    have hsz : s.size = z := by rw [hs, B_size, hz]
    obtain ⟨t, ht⟩ : ∃ t, t = B (cellsL l) := ⟨_, rfl⟩
    rw [← hs] at C1 C2 ⊢
    rw [← hz] at hl
    rw [← hz, ← ht] at C1 C2
    clear hs hz ht
    go_enter Try.func3, Try.ntmps3
    go_wp2_with fail
    go_at_call 9
    refine (C1.out _).mono ?_
    rintro e w1 ⟨A1, c1, rfl, h1, b1⟩
    have H1 := Lib.hid h1
    have B1 := Lib.hid b1
    clear h1 b1
    go_wp2_with fail
    go_at_call 10
    refine (C2.out _).mono ?_
    rintro e w2 ⟨A2, c2, rfl, h2, b2⟩
    have CS := Lib.hid (HS.out A1 A2 c1 c2 w2 (H1.out.below b2) h2)
    have HB : Hid (Below w.heap.size w w2) := Lib.hid (B1.out.trans (b2.mono B1.out.size))
    clear h2 b2 H1 B1
    go_wp2_with fail
    go_at_call 11
    refine CS.out.mono ?_
    rintro e w3 ⟨rfl, b3⟩
    have HB3 : Hid (Below w.heap.size w w3) := Lib.hid (HB.out.trans (b3.mono HB.out.size))
    clear b3 HB CS
    go_wp2_with fail
    go_at_call 12
    refine (does_is _).mono ?_
    rintro e w4 ⟨rfl, b4⟩
    have HB4 : Hid (Below w.heap.size w w4) := Lib.hid (HB3.out.trans (b4.mono HB3.out.size))
    clear b4
    go_wp2
    go_ret
    exact ⟨rfl, HB4.out⟩
end Go.Proofs.Ytmnehlheflfpaaa.wrp
