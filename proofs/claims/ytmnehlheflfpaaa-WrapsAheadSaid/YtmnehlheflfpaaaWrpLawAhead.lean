/- WrapsAhead. -/
import Derived.Test.YtmnehlheflfpaaaWrpLawRows
namespace Go.Proofs.Ytmnehlheflfpaaa.wrp
open Go.RowKit Go.Lib
set_option linter.unusedVariables false
set_option linter.unusedSimpArgs false
set_option linter.unnecessarySimpa false
set_option linter.unusedSectionVars false

theorem cut_text (s : ByteArray) (l : List UInt8) (k : Nat) (h : s = B l) : s.extract 0 k = B (l.take k) := by
  rw [extract_all, h, list_B, List.drop_zero, Nat.sub_zero]
theorem cells_front (a b : List UInt8) : (cellsL (a ++ b)).take (atL a a.length) = cellsL a := by
  have h := cells_pre_take (a ++ b) a.length
  rw [at_app a b a.length (Nat.le_refl _), List.take_left] at h
  exact h
set_option maxHeartbeats 4000000 in
set_option maxRecDepth 100000 in
theorem law_ahead (a b c : List UInt8) (w : World) (ha : a.length ≤ maxLen) (hb : b.length ≤ maxLen) (hc : c.length ≤ maxLen) : Calls Try.prog 7 #[.string (B a), .string (B b), .string (B c)] w fun e w' => e = .returned (.bool true) ∧ Below w.heap.size w w' := by
  obtain ⟨x, hx⟩ : ∃ x, x = a.length := ⟨_, rfl⟩
  obtain ⟨y, hy⟩ : ∃ y, y = b.length := ⟨_, rfl⟩
  obtain ⟨z, hz⟩ : ∃ z, z = c.length := ⟨_, rfl⟩
  by_cases hbig : 500 < x ∨ 500 < y ∨ 500 < z
  · obtain ⟨s, hs⟩ : ∃ s, s = B a := ⟨_, rfl⟩
    obtain ⟨t, ht⟩ : ∃ t, t = B b := ⟨_, rfl⟩
    obtain ⟨u, hu⟩ : ∃ u, u = B c := ⟨_, rfl⟩
    have hsz : s.size = x := by rw [hs, B_size, hx]
    have htz : t.size = y := by rw [ht, B_size, hy]
    have huz : u.size = z := by rw [hu, B_size, hz]
    rw [← hs, ← ht, ← hu]
    clear hs ht hu hx hy hz ha hb hc
    by_cases h1 : 500 < x
    · have q1 : decide ((500 : Int) < (x : Int)) = true := by simp; omega
      clear hbig
      go_enter Try.func7, Try.ntmps7
      go_wp2
      go_ret
      exact ⟨rfl, Below.refl _ _⟩
    · have q1 : decide ((500 : Int) < (x : Int)) = false := by simp; omega
      by_cases h2 : 500 < y
      · have q2 : decide ((500 : Int) < (y : Int)) = true := by simp; omega
        clear hbig
        go_enter Try.func7, Try.ntmps7
        go_wp2
        go_ret
        exact ⟨rfl, Below.refl _ _⟩
      · have q2 : decide ((500 : Int) < (y : Int)) = false := by simp; omega
        have h3 : 500 < z := by omega
        have q3 : decide ((500 : Int) < (z : Int)) = true := by simp; omega
        clear hbig
        go_enter Try.func7, Try.ntmps7
        go_wp2
        go_ret
        exact ⟨rfl, Below.refl _ _⟩
  · have hx5 : x ≤ 500 := by omega
    have hy5 : y ≤ 500 := by omega
    have hz5 : z ≤ 500 := by omega
    have q1 : decide ((500 : Int) < (x : Int)) = false := by simp; omega
    have q2 : decide ((500 : Int) < (y : Int)) = false := by simp; omega
    have q3 : decide ((500 : Int) < (z : Int)) = false := by simp; omega
    have C1 := Lib.hid (fun w => cellsIs (cells_is (a ++ b) w (by rw [List.length_append]; omega)))
    have C2 := Lib.hid (fun w => cellsIs (cells_is (a ++ c) w (by rw [List.length_append]; omega)))
    have C7 := Lib.hid (fun w => does_is w)
    obtain ⟨p, hp⟩ : ∃ p, p = atL a a.length := ⟨_, rfl⟩
    have hpb := at_bound a a.length (Nat.le_refl _)
    have HF1 := cells_front a b
    have HF2 := cells_front a c
    have HA1 : Hid (∀ i, i ≤ x → atL (a ++ b) i = atL a i) := Lib.hid fun i h => at_app a b i (by omega)
    have HA2 : Hid (∀ i, i ≤ x → atL (a ++ c) i = atL a i) := Lib.hid fun i h => at_app a c i (by omega)
    have HP : Hid (atL a x = p) := Lib.hid (by rw [hp, hx])
    rw [← hp] at hpb HF1 HF2
    have hpn1 : p ≤ (cellsL (a ++ b)).length := by have := congrArg List.length HF1; rw [List.length_take] at this; have h2 := at_all a; rw [hp, h2] at this ⊢; omega
    have hpn2 : p ≤ (cellsL (a ++ c)).length := by have := congrArg List.length HF2; rw [List.length_take] at this; have h2 := at_all a; rw [hp, h2] at this ⊢; omega
    have hn1b := (cells_bound (a ++ b)).2
    have hn2b := (cells_bound (a ++ c)).2
    rw [List.length_append] at hn1b hn2b
    obtain ⟨n1, hn1⟩ : ∃ n, n = (cellsL (a ++ b)).length := ⟨_, rfl⟩
    obtain ⟨n2, hn2⟩ : ∃ n, n = (cellsL (a ++ c)).length := ⟨_, rfl⟩
    obtain ⟨t1, ht1⟩ : ∃ t, t = B (cellsL (a ++ b)) := ⟨_, rfl⟩
    obtain ⟨t2, ht2⟩ : ∃ t, t = B (cellsL (a ++ c)) := ⟨_, rfl⟩
    obtain ⟨t0, ht0⟩ : ∃ t, t = B (cellsL a) := ⟨_, rfl⟩
    have ht1z : t1.size = n1 := by rw [ht1, B_size, hn1]
    have ht2z : t2.size = n2 := by rw [ht2, B_size, hn2]
    have hx1 : t1.extract 0 p = t0 := by rw [cut_text t1 _ p ht1, HF1, ht0]
    have hx2 : t2.extract 0 p = t0 := by rw [cut_text t2 _ p ht2, HF2, ht0]
    obtain ⟨s, hs⟩ : ∃ s, s = B a := ⟨_, rfl⟩
    obtain ⟨t, ht⟩ : ∃ t, t = B b := ⟨_, rfl⟩
    obtain ⟨u, hu⟩ : ∃ u, u = B c := ⟨_, rfl⟩
    have hsz : s.size = x := by rw [hs, B_size, hx]
    have htz : t.size = y := by rw [ht, B_size, hy]
    have huz : u.size = z := by rw [hu, B_size, hz]
    obtain ⟨st, hst⟩ : ∃ v, v = B (a ++ b) := ⟨_, rfl⟩
    obtain ⟨su, hsu⟩ : ∃ v, v = B (a ++ c) := ⟨_, rfl⟩
    have hab : s ++ t = st := by rw [hs, ht, hst, add_B]
    have hac : s ++ u = su := by rw [hs, hu, hsu, add_B]
    rw [← ht1, ← hst, List.length_append, ← hx, ← hy] at C1
    rw [← ht2, ← hsu, List.length_append, ← hx, ← hz] at C2
    rw [← hs, ← ht, ← hu]
    rw [← hn1] at hpn1 hn1b
    rw [← hn2] at hpn2 hn2b
    have hp4 : p ≤ 4000 := by omega
    clear hs ht hu hst hsu ht1 ht2 ht0 hn1 hn2 HF1 HF2 hp hbig ha hb hc hpb hn1b hn2b hx hy hz
    go_enter Try.func7, Try.ntmps7
    go_wp2_with fail
    go_at_call 9
    refine (C1.out _).mono ?_
    rintro e w1 ⟨b1, o1, c1, rfl, h1, hb1⟩
    have H1 := Lib.hid h1
    have HB1 := Lib.hid hb1
    clear h1 hb1
    go_wp2_with fail
    go_at_call 9
    refine (C2.out _).mono ?_
    rintro e w2 ⟨b2, o2, c2, rfl, h2, hb2⟩
    have HB2 : Below w.heap.size w w2 := HB1.out.trans (hb2.mono HB1.out.size)
    have K1 : Hid (∀ i, i ≤ x → w2.cell? ⟨b1, o1 + i, none⟩ = some (.int .i64 (atL a i : Nat))) := Lib.hid fun i hi => by
      have h := H1.out i (by omega)
      rw [hb2.cell (p := ⟨b1, o1 + i, none⟩) (World.block_lt_of_cell? _ _ h), h, HA1.out i hi]
    have K2 : Hid (∀ i, i ≤ x → w2.cell? ⟨b2, o2 + i, none⟩ = some (.int .i64 (atL a i : Nat))) := Lib.hid fun i hi => by
      rw [h2 i (by omega), HA2.out i hi]
    clear h2 hb2 H1 HB1 C1 C2 HA1 HA2
    go_wp2_with fail
    go_loopg [11] (x + 1) (fun g s11 wr => ∃ i : Nat, i ≤ x + 1 ∧ x + 1 - i ≤ g ∧ s11 = .int .i64 i ∧ Below w2.heap.size w2 wr)
    case atStart => exact ⟨0, Nat.zero_le _, by omega, rfl, Below.refl _ _⟩
    case round =>
      obtain ⟨i, hi, hg, rfl, hB⟩ := hrel
      by_cases hlt : i ≤ x
      · have q4 : decide ((i : Int) ≤ (x : Int)) = true := by simp; omega
        have k1 := K1.out i hlt
        have k2 := K2.out i hlt
        have e1 : wr.cell? ⟨b1, o1 + i, none⟩ = some (.int .i64 (atL a i : Nat)) := (hB.cell (p := ⟨b1, o1 + i, none⟩) (World.block_lt_of_cell? _ _ k1)).trans k1
        have e2 : wr.cell? ⟨b2, o2 + i, none⟩ = some (.int .i64 (atL a i : Nat)) := (hB.cell (p := ⟨b2, o2 + i, none⟩) (World.block_lt_of_cell? _ _ k2)).trans k2
        have HB := Lib.hid hB
        obtain ⟨q, hq⟩ : ∃ q, q = atL a i := ⟨_, rfl⟩
        rw [← hq] at e1 e2
        have hlt2 : i < x + y + 1 := by omega
        have hlt3 : i < x + z + 1 := by omega
        clear k1 k2 hB hq HB2
        go_wp2_with fail
        go_quiet (fail)
        go_wp2
        go_roundg (x + 1 - (i + 1))
        case measure => omega
        case rel => exact ⟨i + 1, by omega, by omega, by go_num, below_drewN HB.out _⟩
      · have q4 : decide ((i : Int) ≤ (x : Int)) = false := by simp; omega
        have k1 := K1.out x (Nat.le_refl _)
        rw [HP.out] at k1
        have e1 : wr.cell? ⟨b1, o1 + x, none⟩ = some (.int .i64 (p : Int)) := (hB.cell (p := ⟨b1, o1 + x, none⟩) (World.block_lt_of_cell? _ _ k1)).trans k1
        have HB : Hid (Below w.heap.size w wr) := Lib.hid (HB2.trans (hB.mono HB2.size))
        have hlt2 : x < x + y + 1 := by omega
        clear k1 hB HB2 hi hg
        have S0 : True ∧ More wr.heap.size wr wr := ⟨trivial, Below.refl _ _⟩
        go_wp2_with fail
        trace_state
        go_region_held3 (fun W => True ∧ More wr.heap.size wr W)
          (first | assumption | exact ⟨trivial, by assumption⟩ | exact ⟨trivial, more_drew (Below.refl _ _)⟩)
          (first
            | (go_at_call 12; (with_reducible refine (C7.out _).mono ?_); rintro e w' ⟨rfl, hB7⟩; have hM := more_trans (and_more (by assumption)) hB7)
            | fail "NONE")
        all_goals
          have hfin := and_more (by assumption)
          go_wp2
          go_ret
          exact ⟨rfl, HB.out.trans (Below.mono hfin HB.out.size)⟩
end Go.Proofs.Ytmnehlheflfpaaa.wrp
