/- Lines in rows: At. -/
import Derived.Test.YtmnehlheflfpaaaWrpCount
namespace Go.Proofs.Ytmnehlheflfpaaa.wrp
open Go.RowKit Go.Lib
set_option linter.unusedVariables false
set_option linter.unusedSimpArgs false
set_option linter.unnecessarySimpa false
set_option linter.unusedSectionVars false

set_option maxHeartbeats 4000000 in
theorem at_no (l : List UInt8) (c i : Int) (hc : c < 1) (w : World) : Calls Try.prog 13 #[.string (B l), .int .i64 c, .int .i64 i] w fun e w' => e = .returned (.tuple #[.int .i64 0, .int .i64 0]) ∧ Below w.heap.size w w' := by
  go_enter Try.func13, Try.ntmps13
  go_wp2
  go_ret2
  exact ⟨rfl, Below.refl _ _⟩
def AtSays (l : List UInt8) (c : Nat) (i : Int) (w : World) (e : Ending) (w' : World) : Prop :=
  e = .returned (.tuple #[.int .i64 ((placeL l c i / c : Nat) : Int), .int .i64 ((placeL l c i % c : Nat) : Int)]) ∧ Below w.heap.size w w'
theorem ret_zero (l : List UInt8) (c : Nat) (i : Int) (h : placeL l c i = 0) : Ending.returned (.tuple #[.int .i64 ((placeL l c i / c : Nat) : Int), .int .i64 ((placeL l c i % c : Nat) : Int)]) = .returned (.tuple #[.int .i64 0, .int .i64 0]) := by
  rw [h, Nat.zero_div, Nat.zero_mod]; rfl
theorem place_in (l : List UInt8) (c j : Nat) (hj : j < l.length) : placeL l c j = atL l j := by
  unfold placeL
  rw [if_neg (fun h => by omega)]
  congr 1; omega
theorem place_neg (l : List UInt8) (c : Nat) (i : Int) (h : i < 0) : placeL l c i = 0 := by
  unfold placeL
  rw [if_neg (fun h => by omega)]
  have : (min (max i 0) (l.length : Int)).toNat = 0 := by omega
  rw [this, at_zero]
theorem place_end (l : List UInt8) (c : Nat) (i : Int) (h : (l.length : Int) ≤ i) (h2 : ¬ (0 < (cellsL l).length ∧ (cellsL l).length % c = 0)) : placeL l c i = (cellsL l).length := by
  unfold placeL
  rw [if_neg (fun h => h2 h.2)]
  have : (min (max i 0) (l.length : Int)).toNat = l.length := by omega
  rw [this, at_all]
theorem place_full (l : List UInt8) (c : Nat) (i : Int) (h : (l.length : Int) ≤ i) (h1 : 0 < (cellsL l).length) (h2 : (cellsL l).length % c = 0) : placeL l c i = (cellsL l).length - 1 := by
  unfold placeL
  rw [if_pos ⟨h, h1, h2⟩]
set_option maxHeartbeats 4000000 in
set_option maxRecDepth 100000 in
theorem at_yes (l : List UInt8) (c : Nat) (i : Int) (hc : 0 < c) (hl : l.length ≤ 100000) (w : World) : Calls Try.prog 13 #[.string (B l), .int .i64 c, .int .i64 i] w (AtSays l c i w) := by
  have q : decide ((c : Int) < 1) = false := by simp; omega
  have q0 : ¬ (c : Int) = 0 := by omega
  obtain ⟨z, hz⟩ : ∃ z, z = l.length := ⟨_, rfl⟩
  have hC : ∀ k, k ≤ z → Calls Try.prog 21 #[.string ((B l).extract 0 k)] w fun e w' => e = .returned (.int .i64 (atL l k : Nat)) ∧ Below w.heap.size w w' := fun k hk => by
    have := count_is (l.take k) w (by rw [List.length_take]; omega)
    rw [extract_all, list_B, List.drop_zero, Nat.sub_zero]; exact this
  have HC := Lib.hid hC
  have HC0 : Hid (Calls Try.prog 21 #[.string ByteArray.empty] w fun e w' => e = .returned (.int .i64 0) ∧ Below w.heap.size w w') := Lib.hid (count_is [] w (by simp))
  obtain ⟨s, hs⟩ : ∃ s, s = B l := ⟨_, rfl⟩
  have hsz : s.size = z := by rw [hs, B_size, hz]
  rw [← hs] at HC ⊢
  have hl' : z ≤ 100000 := by omega
  have HZ := Lib.hid hz
  have HN : Hid (atL l z = (cellsL l).length) := Lib.hid (by rw [hz, at_all])
  have hbz := (cells_bound l).2
  clear hs hC
  by_cases h1 : i < 0
  · have FIN := Lib.hid (ret_zero l c i (place_neg l c i h1))
    have hzi : ¬ (z : Int) ≤ i := by omega
    have q1 : decide ((z : Int) ≤ i) = false := by simp; omega
    clear hz hbz
    go_enter Try.func13, Try.ntmps13
    go_wp2_with (go_at_call 21; refine HC0.out.mono ?_; rintro e w1 ⟨rfl, hb1⟩; have HB1 := Lib.hid hb1; clear hb1)
    go_quiet (fail)
    go_wp2
    go_ret2
    exact ⟨by rw [FIN.out]; rfl, below_drewN HB1.out _⟩
  · obtain ⟨j, rfl⟩ : ∃ j : Nat, i = j := ⟨i.toNat, by omega⟩
    clear h1
    by_cases h2 : j < z
    · have h2' : ¬ (z : Int) ≤ (j : Int) := by omega
      have FIN := Lib.hid (place_in l c j (by omega))
      obtain ⟨d0, d1⟩ := div_small (atL l j) c (by have := at_bound l j (by omega); omega)
      have C := Lib.hid (HC.out j (by omega))
      have hbd := at_bound l j (by omega)
      obtain ⟨p, hp⟩ : ∃ p, p = atL l j := ⟨_, rfl⟩
      rw [← hp] at C FIN hbd d0 d1
      have q1 : decide ((z : Int) ≤ (j : Int)) = false := by simp; omega
      clear hz hbz hp
      go_enter Try.func13, Try.ntmps13
      go_wp2_with (go_at_call 21; refine C.out.mono ?_; rintro e w1 ⟨rfl, hb1⟩; have HB1 := Lib.hid hb1; clear hb1)
      go_quiet (fail)
      go_wp2
      go_ret2
      exact ⟨by rw [FIN.out]; rfl, below_drewN HB1.out _⟩
    · have C := Lib.hid (HC.out z (Nat.le_refl _))
      rw [HN.out] at C
      obtain ⟨p, hp⟩ : ∃ p, p = (cellsL l).length := ⟨_, rfl⟩
      rw [← hp] at C hbz
      have q1 : decide ((z : Int) ≤ (j : Int)) = true := by simp; omega
      have HL : Hid ((l.length : Int) ≤ (j : Int)) := Lib.hid (by omega)
      by_cases h0 : p = 0
      · have FIN := Lib.hid (ret_zero l c j (by rw [place_end l c j HL.out (by rw [← hp]; omega), ← hp, h0]))
        subst h0
        clear hz hbz hp
        by_cases hjz : j = z
        · subst hjz
          go_enter Try.func13, Try.ntmps13
          go_wp2_with (go_at_call 21; refine C.out.mono ?_; rintro e w1 ⟨rfl, hb1⟩; have HB1 := Lib.hid hb1; clear hb1)
          go_quiet (fail)
          go_wp2
          go_ret2
          exact ⟨by rw [FIN.out]; rfl, below_drewN HB1.out _⟩
        · have h3 : (z : Int) < (j : Int) := by omega
          go_enter Try.func13, Try.ntmps13
          go_wp2_with (go_at_call 21; refine C.out.mono ?_; rintro e w1 ⟨rfl, hb1⟩; have HB1 := Lib.hid hb1; clear hb1)
          go_quiet (fail)
          go_wp2
          go_ret2
          exact ⟨by rw [FIN.out]; rfl, below_drewN HB1.out _⟩
      · have q2 : decide ((0 : Int) < (p : Int)) = true := by simp; omega
        by_cases h4 : p % c = 0
        · have FIN : Hid (placeL l c j = p - 1) := Lib.hid (by rw [place_full l c j HL.out (by rw [← hp]; omega) (by rw [← hp]; exact h4), ← hp])
          have q3' : (p : Int) % (c : Int) = 0 := by
            have : ((p % c : Nat) : Int) = 0 := by rw [h4]; rfl
            exact this
          have q3 : ((p : Int) % (c : Int) == 0) = true := by rw [q3']; rfl
          obtain ⟨m, hm⟩ : ∃ m, p = m + 1 := ⟨p - 1, by omega⟩
          have q4 : (p : Int) - 1 = (m : Int) := by omega
          have hmm : p - 1 = m := by omega
          rw [hmm] at FIN
          have hp0 : 0 < p := by omega
          obtain ⟨d0, d1⟩ := div_small m c (by omega)
          clear hz hp h4 hmm hm h0
          by_cases hjz : j = z
          · subst hjz
            go_enter Try.func13, Try.ntmps13
            go_wp2_with (go_at_call 21; refine C.out.mono ?_; rintro e w1 ⟨rfl, hb1⟩; have HB1 := Lib.hid hb1; clear hb1)
            go_quiet (fail)
            go_wp2
            go_ret2
            exact ⟨by rw [FIN.out]; rfl, below_drewN HB1.out _⟩
          · have h3 : (z : Int) < (j : Int) := by omega
            go_enter Try.func13, Try.ntmps13
            go_wp2_with (go_at_call 21; refine C.out.mono ?_; rintro e w1 ⟨rfl, hb1⟩; have HB1 := Lib.hid hb1; clear hb1)
            go_quiet (fail)
            go_wp2
            go_ret2
            exact ⟨by rw [FIN.out]; rfl, below_drewN HB1.out _⟩
        · have FIN : Hid (placeL l c j = p) := Lib.hid (by rw [place_end l c j HL.out (by rw [← hp]; omega), ← hp])
          have q3' : ¬ (p : Int) % (c : Int) = 0 := fun h => by
            have : ((p % c : Nat) : Int) = 0 := h
            omega
          have q3 : ((p : Int) % (c : Int) == 0) = false := by simp only [beq_eq_false_iff_ne]; exact q3'
          have hp0 : 0 < p := by omega
          obtain ⟨d0, d1⟩ := div_small p c (by omega)
          clear hz hp h4 h0
          by_cases hjz : j = z
          · subst hjz
            go_enter Try.func13, Try.ntmps13
            go_wp2_with (go_at_call 21; refine C.out.mono ?_; rintro e w1 ⟨rfl, hb1⟩; have HB1 := Lib.hid hb1; clear hb1)
            go_quiet (fail)
            go_wp2
            go_ret2
            exact ⟨by rw [FIN.out]; rfl, below_drewN HB1.out _⟩
          · have h3 : (z : Int) < (j : Int) := by omega
            go_enter Try.func13, Try.ntmps13
            go_wp2_with (go_at_call 21; refine C.out.mono ?_; rintro e w1 ⟨rfl, hb1⟩; have HB1 := Lib.hid hb1; clear hb1)
            go_quiet (fail)
            go_wp2
            go_ret2
            exact ⟨by rw [FIN.out]; rfl, below_drewN HB1.out _⟩
end Go.Proofs.Ytmnehlheflfpaaa.wrp
