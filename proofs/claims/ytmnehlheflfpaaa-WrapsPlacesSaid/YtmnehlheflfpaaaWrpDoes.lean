/- Lines in rows: the chapter's examples. -/
import Derived.Test.YtmnehlheflfpaaaWrpRows
import Derived.Test.YtmnehlheflfpaaaWrpAt
namespace Go.Proofs.Ytmnehlheflfpaaa.wrp
open Go.RowKit Go.Lib
set_option linter.unusedVariables false
set_option linter.unusedSimpArgs false
set_option linter.unnecessarySimpa false
set_option linter.unusedSectionVars false

theorem ints_new (W : World) (cs : Array Value) (ns : List Nat) (hcs : cs.toList = ints ns) (H : Nat) (hH : W.heap.size = H) : IsInts (W.alloc (.cells cs 3)) (some ⟨H, 0, none⟩) ns := fun _ => by
  subst hH
  refine ⟨W.heap.size, 0, rfl, by simp, fun j n hj => ?_⟩
  rw [Nat.zero_add, (At.new W 3 cs).cell j, ← Array.getElem?_toList, hcs]
  unfold ints; rw [List.getElem?_map, hj]; rfl
theorem same_yes (A1 A2 : Option Addr) (n c1 c2 : Nat) (l : List Nat) (w : World) (h1 : IsInts w A1 l) (h2 : IsInts w A2 l) (hn : n = l.length) (hm : n ≤ 1000000) (hv : ∀ x ∈ l, x ≤ 1000000000) :
    Calls Try.prog 11 #[.slice A1 n c1, .slice A2 n c2] w fun e w' => e = .returned (.bool true) ∧ Below w.heap.size w w' :=
  (same_is A1 A2 n n c1 c2 l l w h1 h2 hn hn hm hm hv hv).mono fun _ _ ⟨h, hb⟩ => ⟨by rw [h, beq_self_eq_true], hb⟩
/-- Cells, with the places as a slice of numbers. -/
def CellsTell (s : ByteArray) (ns : List Nat) (n : Nat) (w : World) (e : Ending) (w' : World) : Prop :=
  ∃ A c, e = .returned (.tuple #[.string s, .slice A n c]) ∧ IsInts w' A ns ∧ Below w.heap.size w w'
theorem cellsTell {P : Nat} {l : List UInt8} {w : World} {a : Array Value} (h : Calls Try.prog P a w (CellsSays l w)) : Calls Try.prog P a w (CellsTell (B (cellsL l)) (placesL l) (l.length + 1) w) :=
  h.mono fun e w' ⟨v, he, ho, hb⟩ => by
    obtain ⟨A, c, rfl, _, _⟩ := own_form' ho
    exact ⟨A, c, he, IsInts.of_own ho, hb⟩
theorem cells_ab (w : World) : Calls Try.prog 9 #[.string ⟨#[97, 9, 98]⟩] w (CellsTell ⟨#[97, 32, 32, 32, 32, 32, 32, 32, 98]⟩ [0, 1, 8, 9] 4 w) := by
  have h := cellsTell (cells_is [97, 9, 98] w (by decide))
  have e1 : cellsL [97, 9, 98] = [97, 32, 32, 32, 32, 32, 32, 32, 98] := by decide +kernel
  have e2 : placesL [97, 9, 98] = [0, 1, 8, 9] := by decide +kernel
  rw [e1, e2] at h
  exact h
theorem cells_odd (w : World) : Calls Try.prog 9 #[.string ⟨#[1, 127, 200]⟩] w (CellsTell ⟨#[94, 65, 94, 63, 92, 51, 49, 48]⟩ [0, 2, 4, 8] 4 w) := by
  have h := cellsTell (cells_is [1, 127, 200] w (by decide))
  have e1 : cellsL [1, 127, 200] = [94, 65, 94, 63, 92, 51, 49, 48] := by decide +kernel
  have e2 : placesL [1, 127, 200] = [0, 2, 4, 8] := by decide +kernel
  rw [e1, e2] at h
  exact h
theorem at_ah (w : World) : Calls Try.prog 13 #[.string ⟨#[97, 98, 99, 100, 101, 102, 103, 104]⟩, .int .i64 4, .int .i64 8] w fun e w' => e = .returned (.tuple #[.int .i64 1, .int .i64 3]) ∧ Below w.heap.size w w' := by
  have h := at_yes [97, 98, 99, 100, 101, 102, 103, 104] 4 8 (by decide) (by decide) w
  unfold AtSays at h
  have e1 : placeL [97, 98, 99, 100, 101, 102, 103, 104] 4 8 = 7 := by decide +kernel
  rw [e1] at h
  exact h
theorem rows_ah (w : World) : Calls Try.prog 15 #[.string ⟨#[97, 98, 99, 100, 101, 102, 103, 104]⟩, .int .i64 4] w fun e w' => e = .returned (.int .i64 2) ∧ Below w.heap.size w w' := by
  have h := rowsOf_yes [97, 98, 99, 100, 101, 102, 103, 104] 4 (by decide) (by decide) w
  have e1 : rowsN (cellsL [97, 98, 99, 100, 101, 102, 103, 104]).length 4 = 2 := by decide +kernel
  rw [e1] at h
  exact h
theorem rows_none (w : World) : Calls Try.prog 15 #[.string ⟨#[]⟩, .int .i64 4] w fun e w' => e = .returned (.int .i64 1) ∧ Below w.heap.size w w' := by
  have h := rowsOf_yes [] 4 (by decide) (by decide) w
  have e1 : rowsN (cellsL []).length 4 = 1 := by decide +kernel
  rw [e1] at h
  exact h
theorem row_ah (w : World) : Calls Try.prog 17 #[.string ⟨#[97, 98, 99, 100, 101, 102, 103, 104]⟩, .int .i64 4, .int .i64 1] w fun e w' => e = .returned (.string ⟨#[101, 102, 103, 104]⟩) ∧ Below w.heap.size w w' := by
  have h := row_yes [97, 98, 99, 100, 101, 102, 103, 104] 4 1 (by decide) (by decide) w
  have e1 : rowL (cellsL [97, 98, 99, 100, 101, 102, 103, 104]) 4 1 = [101, 102, 103, 104] := by decide +kernel
  rw [e1] at h
  exact h
set_option maxHeartbeats 4000000 in
set_option maxRecDepth 100000 in
theorem does_is (w : World) : Calls Try.prog 12 #[] w fun e w' => e = .returned (.bool true) ∧ Below w.heap.size w w' := by
  go_enter Try.func12, Try.ntmps12
  go_wp2_with fail
  go_at_call 9
  refine (cells_ab _).mono ?_
  rintro e w1 ⟨A1, c1, rfl, h1, b1⟩
  have H1 := Lib.hid h1
  have B1 := Lib.hid b1
  clear h1 b1
  go_wp2_with fail
  go_at_call 9
  refine (cells_odd _).mono ?_
  rintro e w2 ⟨A2, c2, rfl, h2, b2⟩
  have H2 := Lib.hid h2
  have B2 := Lib.hid b2
  clear h2 b2
  go_wp2_with fail
  go_at_call 13
  refine (at_ah _).mono ?_
  rintro e w3 ⟨rfl, b3⟩
  have S1 : Hid (IsInts w3 A1 [0, 1, 8, 9]) := Lib.hid ((H1.out.below B2.out).below b3)
  have S2 : Hid (IsInts w3 A2 [0, 2, 4, 8]) := Lib.hid (H2.out.below b3)
  have HB : Hid (Below w.heap.size w w3) := Lib.hid ((B1.out.trans (B2.out.mono B1.out.size)).trans (b3.mono (Nat.le_trans B1.out.size B2.out.size)))
  clear H1 H2 B1 B2 b3
  have C1 : Hid (Calls Try.prog 11 #[.slice A1 4 c1, .slice (some ⟨w3.heap.size, 0, none⟩) 4 4] (w3.alloc (.cells #[.int .i64 0, .int .i64 1, .int .i64 8, .int .i64 9] 3)) fun e w' => e = .returned (.bool true) ∧ Below (w3.alloc (.cells #[.int .i64 0, .int .i64 1, .int .i64 8, .int .i64 9] 3)).heap.size (w3.alloc (.cells #[.int .i64 0, .int .i64 1, .int .i64 8, .int .i64 9] 3)) w') :=
    Lib.hid (same_yes A1 _ 4 c1 4 [0, 1, 8, 9] _ (S1.out.below ((Below.refl _ _).alloc (Nat.le_refl _) _)) (ints_new w3 _ _ rfl _ rfl) rfl (by decide) (by decide))
  go_wp2_with fail
  go_at_call 11
  refine C1.out.mono ?_
  rintro e w4 ⟨rfl, b4⟩
  have hb34 := ((Below.refl w3.heap.size w3).alloc (Nat.le_refl _) (.cells #[.int .i64 0, .int .i64 1, .int .i64 8, .int .i64 9] 3)).trans (b4.mono (by simp))
  have S3 : Hid (IsInts w4 A2 [0, 2, 4, 8]) := Lib.hid (S2.out.below hb34)
  have HB4 : Hid (Below w.heap.size w w4) := Lib.hid (HB.out.trans (hb34.mono HB.out.size))
  clear hb34 b4 C1 S1 S2 HB
  have C2 : Hid (Calls Try.prog 11 #[.slice A2 4 c2, .slice (some ⟨w4.heap.size, 0, none⟩) 4 4] (w4.alloc (.cells #[.int .i64 0, .int .i64 2, .int .i64 4, .int .i64 8] 3)) fun e w' => e = .returned (.bool true) ∧ Below (w4.alloc (.cells #[.int .i64 0, .int .i64 2, .int .i64 4, .int .i64 8] 3)).heap.size (w4.alloc (.cells #[.int .i64 0, .int .i64 2, .int .i64 4, .int .i64 8] 3)) w') :=
    Lib.hid (same_yes A2 _ 4 c2 4 [0, 2, 4, 8] _ (S3.out.below ((Below.refl _ _).alloc (Nat.le_refl _) _)) (ints_new w4 _ _ rfl _ rfl) rfl (by decide) (by decide))
  go_wp2_with fail
  go_at_call 11
  refine C2.out.mono ?_
  rintro e w5 ⟨rfl, b5⟩
  have HB5 : Hid (Below w.heap.size w w5) := Lib.hid (HB4.out.trans ((((Below.refl w4.heap.size w4).alloc (Nat.le_refl _) (.cells #[.int .i64 0, .int .i64 2, .int .i64 4, .int .i64 8] 3)).trans (b5.mono (by simp))).mono HB4.out.size))
  clear b5 C2 S3 HB4
  go_wp2_with fail
  go_at_call 15
  refine (rows_ah _).mono ?_
  rintro e w6 ⟨rfl, b6⟩
  have HB6 := Lib.hid (HB5.out.trans (b6.mono HB5.out.size))
  clear b6 HB5
  go_wp2_with fail
  go_at_call 17
  refine (row_ah _).mono ?_
  rintro e w7 ⟨rfl, b7⟩
  have HB7 := Lib.hid (HB6.out.trans (b7.mono HB6.out.size))
  clear b7 HB6
  go_wp2_with fail
  go_at_call 15
  refine (rows_none _).mono ?_
  rintro e w8 ⟨rfl, b8⟩
  have HB8 := Lib.hid (HB7.out.trans (b8.mono HB7.out.size))
  clear b8 HB7
  go_wp2
  go_ret
  exact ⟨rfl, HB8.out⟩
end Go.Proofs.Ytmnehlheflfpaaa.wrp
