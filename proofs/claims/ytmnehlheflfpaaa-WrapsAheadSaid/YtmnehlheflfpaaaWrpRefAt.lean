/- Lines in rows: At, of the document. -/
import Derived.Test.YtmnehlheflfpaaaWrpAt
import Derived.Test.YtmnehlheflfpaaaWrpRefCells
namespace Go.Proofs.Ytmnehlheflfpaaa.wrp
open Go.RowKit Go.Lib
set_option linter.unusedVariables false
set_option linter.unusedSimpArgs false
set_option linter.unnecessarySimpa false
set_option linter.unusedSectionVars false

set_option maxHeartbeats 4000000 in
theorem refAt_no (l : List UInt8) (c i : Int) (hc : c < 1) (w : World) : Calls Try.prog 14 #[.string (B l), .int .i64 c, .int .i64 i] w fun e w' => e = .returned (.tuple #[.int .i64 0, .int .i64 0]) ∧ Below w.heap.size w w' := by
  go_enter Try.func14, Try.ntmps14
  go_wp2
  go_ret2
  exact ⟨rfl, Below.refl _ _⟩
theorem places_get (l : List UInt8) (k : Nat) (hk : k ≤ l.length) : (placesL l)[k]? = some (atL l k) := by
  unfold placesL
  rw [List.getElem?_map, List.getElem?_range (by omega)]; rfl
theorem places_len (l : List UInt8) : (placesL l).length = l.length + 1 := by unfold placesL; rw [List.length_map, List.length_range]
/-- Cells, with the places as a slice. -/
def CellsIs (s : ByteArray) (l : List UInt8) (z : Nat) (w : World) (e : Ending) (w' : World) : Prop :=
  ∃ b off c, e = .returned (.tuple #[.string s, .slice (some ⟨b, off, none⟩) (z + 1) c]) ∧ (∀ k, k ≤ z → w'.cell? ⟨b, off + k, none⟩ = some (.int .i64 (atL l k : Nat))) ∧ Below w.heap.size w w'
theorem cellsIs {P : Nat} {l : List UInt8} {w : World} {a : Array Value} (h : Calls Try.prog P a w (CellsSays l w)) : Calls Try.prog P a w (CellsIs (B (cellsL l)) l l.length w) :=
  h.mono fun e w' ⟨v, he, ho, hb⟩ => by
    obtain ⟨A, c, rfl, _, _⟩ := own_form' ho
    obtain ⟨b, off, rfl, _, hc⟩ := IsInts.of_own ho (by rw [places_len]; omega)
    exact ⟨b, off, c, he, fun k hk => hc k _ (places_get l k hk), hb⟩
set_option maxHeartbeats 4000000 in
set_option maxRecDepth 100000 in
theorem refAt_yes (l : List UInt8) (c : Nat) (i : Int) (hc : 0 < c) (hl : l.length ≤ 100000) (w : World) : Calls Try.prog 14 #[.string (B l), .int .i64 c, .int .i64 i] w (AtSays l c i w) := by
  have q : decide ((c : Int) < 1) = false := by simp; omega
  have q0 : ¬ (c : Int) = 0 := by omega
  obtain ⟨z, hz⟩ : ∃ z, z = l.length := ⟨_, rfl⟩
  have C := Lib.hid (cellsIs (refCells_is l w hl))
  obtain ⟨n, hn⟩ : ∃ n, n = (cellsL l).length := ⟨_, rfl⟩
  obtain ⟨t, ht⟩ : ∃ t, t = B (cellsL l) := ⟨_, rfl⟩
  have htz : t.size = n := by rw [ht, B_size, hn]
  rw [← ht, ← hz] at C
  obtain ⟨s, hs⟩ : ∃ s, s = B l := ⟨_, rfl⟩
  have hsz : s.size = z := by rw [hs, B_size, hz]
  rw [← hs] at C ⊢
  have hl' : z ≤ 100000 := by omega
  have HZ := Lib.hid hz
  have HN : Hid (atL l z = n) := Lib.hid (by rw [hz, at_all, hn])
  have hbz := (cells_bound l).2
  have HCN := Lib.hid hn
  rw [← hn] at hbz
  clear hs ht hn
  by_cases h1 : i < 0
  · have FIN := Lib.hid (ret_zero l c i (place_neg l c i h1))
    have hzi : ¬ (z : Int) ≤ i := by omega
    have q1 : decide ((z : Int) ≤ i) = false := by simp; omega
    clear hz hbz
    go_enter Try.func14, Try.ntmps14
    go_wp2_with (go_at_call 10; refine C.out.mono ?_; rintro e w1 ⟨b, off, cc, rfl, ha, hb1⟩; have HB1 := Lib.hid hb1; clear hb1; have hcell : w1.cell? ⟨b, off, none⟩ = some (.int .i64 0) := ha 0 (Nat.zero_le _); clear ha)
    go_quiet (fail)
    go_wp2
    go_ret2
    exact ⟨by rw [FIN.out]; rfl, below_drewN HB1.out _⟩
  · obtain ⟨j, rfl⟩ : ∃ j : Nat, i = j := ⟨i.toNat, by omega⟩
    clear h1
    by_cases h2 : j < z
    · have h2' : ¬ (z : Int) ≤ (j : Int) := by omega
      have FIN := Lib.hid (place_in l c j (by omega))
      obtain ⟨d0, d1⟩ := div_small (atL l j) c (by have := at_bound l j (by omega); omega)
      have hbd := at_bound l j (by omega)
      obtain ⟨p, hp⟩ : ∃ p, p = atL l j := ⟨_, rfl⟩
      rw [← hp] at FIN hbd d0 d1
      have HP := Lib.hid hp
      have q1 : decide ((z : Int) ≤ (j : Int)) = false := by simp; omega
      clear hz hbz hp
      go_enter Try.func14, Try.ntmps14
      go_wp2_with (go_at_call 10; refine C.out.mono ?_; rintro e w1 ⟨b, off, cc, rfl, ha, hb1⟩; have HB1 := Lib.hid hb1; clear hb1; have hcell : w1.cell? ⟨b, off + j, none⟩ = some (.int .i64 (p : Int)) := (by rw [HP.out]; exact ha j (by omega)); clear ha)
      go_quiet (fail)
      go_wp2
      go_ret2
      exact ⟨by rw [FIN.out]; rfl, below_drewN HB1.out _⟩
    · have q1 : decide ((z : Int) ≤ (j : Int)) = true := by simp; omega
      have HL : Hid ((l.length : Int) ≤ (j : Int)) := Lib.hid (by omega)
      by_cases h0 : n = 0
      · have FIN := Lib.hid (ret_zero l c j (by rw [place_end l c j HL.out (by rw [← HCN.out]; omega), ← HCN.out, h0]))
        subst h0
        clear hz hbz
        by_cases hjz : j = z
        · subst hjz
          go_enter Try.func14, Try.ntmps14
          go_wp2_with (go_at_call 10; refine C.out.mono ?_; rintro e w1 ⟨b, off, cc, rfl, ha, hb1⟩; have HB1 := Lib.hid hb1; clear hb1; have hcell : w1.cell? ⟨b, off + j, none⟩ = some (.int .i64 0) := (by have := ha j (Nat.le_refl _); rwa [HN.out] at this); clear ha)
          go_quiet (fail)
          go_wp2
          go_ret2
          exact ⟨by rw [FIN.out]; rfl, below_drewN HB1.out _⟩
        · have h3 : (z : Int) < (j : Int) := by omega
          go_enter Try.func14, Try.ntmps14
          go_wp2_with (go_at_call 10; refine C.out.mono ?_; rintro e w1 ⟨b, off, cc, rfl, ha, hb1⟩; have HB1 := Lib.hid hb1; clear hb1; have hcell : w1.cell? ⟨b, off + z, none⟩ = some (.int .i64 0) := (by have := ha z (Nat.le_refl _); rwa [HN.out] at this); clear ha)
          go_quiet (fail)
          go_wp2
          go_ret2
          exact ⟨by rw [FIN.out]; rfl, below_drewN HB1.out _⟩
      · have q2 : decide ((0 : Int) < (n : Int)) = true := by simp; omega
        by_cases h4 : n % c = 0
        · have FIN : Hid (placeL l c j = n - 1) := Lib.hid (by rw [place_full l c j HL.out (by rw [← HCN.out]; omega) (by rw [← HCN.out]; exact h4), ← HCN.out])
          have q3' : (n : Int) % (c : Int) = 0 := by
            have : ((n % c : Nat) : Int) = 0 := by rw [h4]; rfl
            exact this
          have q3 : ((n : Int) % (c : Int) == 0) = true := by rw [q3']; rfl
          obtain ⟨m, hm⟩ : ∃ m, n = m + 1 := ⟨n - 1, by omega⟩
          have q4 : (n : Int) - 1 = (m : Int) := by omega
          have hmm : n - 1 = m := by omega
          rw [hmm] at FIN
          have hp0 : 0 < n := by omega
          obtain ⟨d0, d1⟩ := div_small m c (by omega)
          clear hz h4 hmm hm h0
          by_cases hjz : j = z
          · subst hjz
            go_enter Try.func14, Try.ntmps14
            go_wp2_with (go_at_call 10; refine C.out.mono ?_; rintro e w1 ⟨b, off, cc, rfl, ha, hb1⟩; have HB1 := Lib.hid hb1; clear hb1; have hcell : w1.cell? ⟨b, off + j, none⟩ = some (.int .i64 (n : Int)) := (by have := ha j (Nat.le_refl _); rwa [HN.out] at this); clear ha)
            go_quiet (fail)
            go_wp2
            go_ret2
            exact ⟨by rw [FIN.out]; rfl, below_drewN HB1.out _⟩
          · have h3 : (z : Int) < (j : Int) := by omega
            go_enter Try.func14, Try.ntmps14
            go_wp2_with (go_at_call 10; refine C.out.mono ?_; rintro e w1 ⟨b, off, cc, rfl, ha, hb1⟩; have HB1 := Lib.hid hb1; clear hb1; have hcell : w1.cell? ⟨b, off + z, none⟩ = some (.int .i64 (n : Int)) := (by have := ha z (Nat.le_refl _); rwa [HN.out] at this); clear ha)
            go_quiet (fail)
            go_wp2
            go_ret2
            exact ⟨by rw [FIN.out]; rfl, below_drewN HB1.out _⟩
        · have FIN : Hid (placeL l c j = n) := Lib.hid (by rw [place_end l c j HL.out (by rw [← HCN.out]; omega), ← HCN.out])
          have q3' : ¬ (n : Int) % (c : Int) = 0 := fun h => by
            have : ((n % c : Nat) : Int) = 0 := h
            omega
          have q3 : ((n : Int) % (c : Int) == 0) = false := by simp only [beq_eq_false_iff_ne]; exact q3'
          have hp0 : 0 < n := by omega
          obtain ⟨d0, d1⟩ := div_small n c (by omega)
          clear hz h4 h0
          by_cases hjz : j = z
          · subst hjz
            go_enter Try.func14, Try.ntmps14
            go_wp2_with (go_at_call 10; refine C.out.mono ?_; rintro e w1 ⟨b, off, cc, rfl, ha, hb1⟩; have HB1 := Lib.hid hb1; clear hb1; have hcell : w1.cell? ⟨b, off + j, none⟩ = some (.int .i64 (n : Int)) := (by have := ha j (Nat.le_refl _); rwa [HN.out] at this); clear ha)
            go_quiet (fail)
            go_wp2
            go_ret2
            exact ⟨by rw [FIN.out]; rfl, below_drewN HB1.out _⟩
          · have h3 : (z : Int) < (j : Int) := by omega
            go_enter Try.func14, Try.ntmps14
            go_wp2_with (go_at_call 10; refine C.out.mono ?_; rintro e w1 ⟨b, off, cc, rfl, ha, hb1⟩; have HB1 := Lib.hid hb1; clear hb1; have hcell : w1.cell? ⟨b, off + z, none⟩ = some (.int .i64 (n : Int)) := (by have := ha z (Nat.le_refl _); rwa [HN.out] at this); clear ha)
            go_quiet (fail)
            go_wp2
            go_ret2
            exact ⟨by rw [FIN.out]; rfl, below_drewN HB1.out _⟩
end Go.Proofs.Ytmnehlheflfpaaa.wrp
