/- Lines in rows: Rows, Row, At. -/
import Derived.Test.YtmnehlheflfpaaaWrpCells
import Derived.Test.YtmnehlheflfpaaaWrpCount
namespace Go.Proofs.Ytmnehlheflfpaaa.wrp
open Go.RowKit Go.Lib
set_option linter.unusedVariables false
set_option linter.unusedSimpArgs false
set_option linter.unnecessarySimpa false
set_option linter.unusedSectionVars false

set_option maxHeartbeats 4000000 in
theorem rowsOf_no (l : List UInt8) (c : Int) (hc : c < 1) (w : World) : Calls Try.prog 15 #[.string (B l), .int .i64 c] w fun e w' => e = .returned (.int .i64 0) ∧ Below w.heap.size w w' := by
  go_enter Try.func15, Try.ntmps15
  go_wp2
  go_ret
  exact ⟨rfl, Below.refl _ _⟩
set_option maxHeartbeats 4000000 in
theorem rowsOf_yes (l : List UInt8) (c : Nat) (hc : 0 < c) (hl : l.length ≤ 100000) (w : World) : Calls Try.prog 15 #[.string (B l), .int .i64 c] w fun e w' => e = .returned (.int .i64 (rowsN (cellsL l).length c : Nat)) ∧ Below w.heap.size w w' := by
  have hb := cells_bound l
  obtain ⟨n, hn⟩ : ∃ n, n = (cellsL l).length := ⟨_, rfl⟩
  have C := Lib.hid (count_is l w hl)
  rw [← hn] at hb C ⊢
  clear hn
  have C2 := fun w => rows_is n c hc (by omega) w
  have q : ¬ (c : Int) < 1 := by omega
  have C2 := Lib.hid C2
  go_enter Try.func15, Try.ntmps15
  go_wp2_with (first
    | (go_at_call 21; refine C.out.mono ?_; rintro e w1 ⟨rfl, hb1⟩; have HB1 := Lib.hid hb1; clear hb1)
    | (go_at_call 22; refine (C2.out _).mono ?_; rintro e w2 ⟨rfl, rfl⟩)
    | fail "NONE")
  go_ret
  exact ⟨rfl, HB1.out⟩
set_option maxHeartbeats 4000000 in
theorem row_no (l : List UInt8) (c k : Int) (hc : c < 1 ∨ k < 0) (w : World) : Calls Try.prog 17 #[.string (B l), .int .i64 c, .int .i64 k] w fun e w' => e = .returned (.string (B [])) ∧ Below w.heap.size w w' := by
  by_cases h1 : c < 1
  · have q : decide (c < 1) = true := by simp; omega
    go_enter Try.func17, Try.ntmps17
    go_wp2
    go_ret
    exact ⟨rfl, Below.refl _ _⟩
  · have q : decide (c < 1) = false := by simp; omega
    have q2 : decide (k < 0) = true := by simp; omega
    go_enter Try.func17, Try.ntmps17
    go_wp2
    go_ret
    exact ⟨rfl, Below.refl _ _⟩
set_option maxHeartbeats 4000000 in
set_option maxRecDepth 100000 in
theorem row_yes (l : List UInt8) (c k : Nat) (hc : 0 < c) (hl : l.length ≤ 100000) (w : World) : Calls Try.prog 17 #[.string (B l), .int .i64 c, .int .i64 k] w fun e w' => e = .returned (.string (B (rowL (cellsL l) c k))) ∧ Below w.heap.size w w' := by
  have hb := cells_bound l
  obtain ⟨n, hn⟩ : ∃ n, n = (cellsL l).length := ⟨_, rfl⟩
  have C := Lib.hid (cells_is l w hl)
  rw [← hn] at hb
  have C2 := Lib.hid (fun w => rows_is n c hc (by omega) w)
  have q : decide ((c : Int) < 1) = false := by simp; omega
  have q2 : decide ((k : Int) < 0) = false := by simp
  obtain ⟨s, hs⟩ : ∃ s, s = B (cellsL l) := ⟨_, rfl⟩
  have hsz : s.size = n := by rw [hs, B_size, hn]
  have HS := Lib.hid hs
  have HN := Lib.hid hn
  clear hs
  by_cases hk : k < rowsN n c
  · have hkc := (row_in n c k hc).1 hk
    have q3 : decide ((rowsN n c : Int) ≤ (k : Int)) = false := by simp; omega
    have p0 : (0 : Int) ≤ (k : Int) * (c : Int) := by rw [← Int.natCast_mul]; exact Int.natCast_nonneg _
    have p1 : (k : Int) * (c : Int) ≤ 1000000 := by rw [← Int.natCast_mul]; omega
    have hsd := fun W => slice_drop (cellsL l) (k * c) ((k : Int) * (c : Int)) (Int.natCast_mul _ _).symm (by omega) W
    rw [← HS.out] at hsd
    obtain ⟨d, hd⟩ : ∃ d, d = (cellsL l).drop (k * c) := ⟨_, rfl⟩
    have hdl : d.length = n - k * c := by rw [hd, List.length_drop, hn]
    rw [← hd] at hsd
    have HF : Hid (rowL (cellsL l) c k = d.take c) := Lib.hid (by unfold rowL; rw [← hd])
    obtain ⟨t, ht⟩ : ∃ t, t = B d := ⟨_, rfl⟩
    have htz : t.size = d.length := by rw [ht, B_size]
    rw [← ht] at hsd
    obtain ⟨z, hz⟩ : ∃ z, z = d.length := ⟨_, rfl⟩
    rw [← hz] at htz
    have HE1 : Hid (z ≤ c → t.extract 0 z = B (d.take c)) := Lib.hid fun h => by rw [extract_all, ht, list_B, List.drop_zero, Nat.sub_zero, hz, List.take_length, List.take_of_length_le (by omega)]
    have HE2 : Hid (t.extract 0 c = B (d.take c)) := Lib.hid (by rw [extract_all, ht, list_B, List.drop_zero, Nat.sub_zero])
    clear hd hdl ht hz hn hkc
    by_cases hcz : c ≤ z
    · have hcz' : (c : Int) ≤ (z : Int) := by omega
      have hmn : min (c : Int) (z : Int) = (c : Int) := by omega
      go_enter Try.func17, Try.ntmps17
      go_wp2_with (first
        | (go_at_call 9; refine C.out.mono ?_; rintro e w1 ⟨v, rfl, ho1, hb1⟩; rw [← HS.out]; have HB1 := Lib.hid hb1; clear hb1 ho1)
        | (go_at_call 22; refine (C2.out _).mono ?_; rintro e w2 ⟨rfl, rfl⟩)
        | fail "NONE")
      go_ret
      exact ⟨by rw [HF.out, ← HE2.out]; rfl, HB1.out⟩
    · have hcz' : (z : Int) < (c : Int) := by omega
      have HE := Lib.hid (HE1.out (by omega))
      have hmn : min (c : Int) (z : Int) = (z : Int) := by omega
      go_enter Try.func17, Try.ntmps17
      go_wp2_with (first
        | (go_at_call 9; refine C.out.mono ?_; rintro e w1 ⟨v, rfl, ho1, hb1⟩; rw [← HS.out]; have HB1 := Lib.hid hb1; clear hb1 ho1)
        | (go_at_call 22; refine (C2.out _).mono ?_; rintro e w2 ⟨rfl, rfl⟩)
        | fail "NONE")
      go_ret
      exact ⟨by rw [HF.out, ← HE.out]; rfl, HB1.out⟩
  · have q3 : decide ((rowsN n c : Int) ≤ (k : Int)) = true := by simp; omega
    have HF : Hid (rowL (cellsL l) c k = []) := Lib.hid (rowL_out _ _ _ hc (by rw [← hn]; omega))
    clear hn
    go_enter Try.func17, Try.ntmps17
    go_wp2_with (first
      | (go_at_call 9; refine C.out.mono ?_; rintro e w1 ⟨v, rfl, ho1, hb1⟩; rw [← HS.out]; have HB1 := Lib.hid hb1; clear hb1 ho1)
      | (go_at_call 22; refine (C2.out _).mono ?_; rintro e w2 ⟨rfl, rfl⟩)
      | fail "NONE")
    go_ret
    exact ⟨by rw [HF.out]; rfl, HB1.out⟩
end Go.Proofs.Ytmnehlheflfpaaa.wrp
