/- Files, the laws: the chapter's examples, walked. -/
import Derived.Test.YtpdegpppeepphaaFilRun
namespace Go.Proofs.Ytpdegpppeepphaa.fil
open Go.RowKit Go.Lib Go.Maps Go.WideMaps
set_option linter.unusedVariables false
set_option linter.unusedSimpArgs false
set_option linter.unnecessarySimpa false
set_option linter.unusedSectionVars false

def laid (w : World) : World :=
  (((w.alloc (.cells (iv [3, 1]).toArray 3)).alloc (.cells (iv [0, 9]).toArray 3)).alloc (.cells (flat (acts w.heap.size)).toArray 33)).alloc (.cells (iv wants).toArray 25)
theorem laid_size (w : World) : (laid w).heap.size = w.heap.size + 4 := by simp [laid]
theorem laid_below (w : World) : Below w.heap.size w (laid w) := by
  unfold laid
  exact ((((Below.refl _ w).alloc (Nat.le_refl _) _).alloc (by simp) _).alloc (by simp; omega) _).alloc (by simp; omega) _
theorem laid_wants (w : World) : LRd (laid w) 0 (w.heap.size + 4) (some ⟨w.heap.size + 1 + 1 + 1, 0, none⟩) (iv wants) := by
  have h := LRd.alloc (((w.alloc (.cells (iv [3, 1]).toArray 3)).alloc (.cells (iv [0, 9]).toArray 3)).alloc (.cells (flat (acts w.heap.size)).toArray 33)) (iv wants) 25
  simp only [World.size_alloc] at h
  exact h.more (by omega) (by omega)
theorem laid_dos (w : World) : Dos (laid w) (w.heap.size + 4) (some ⟨w.heap.size + 1 + 1, 0, none⟩) (acts w.heap.size) := by
  have a1 := (((LRd.alloc w (iv [3, 1]) 3).below ((Below.refl _ _).alloc (Nat.le_refl _) (.cells (iv [0, 9]).toArray 3))).below ((Below.refl _ _).alloc (Nat.le_refl _) (.cells (flat (acts w.heap.size)).toArray 33))).below ((Below.refl _ _).alloc (Nat.le_refl _) (.cells (iv wants).toArray 25))
  have a2 := ((LRd.alloc (w.alloc (.cells (iv [3, 1]).toArray 3)) (iv [0, 9]) 3).below ((Below.refl _ _).alloc (Nat.le_refl _) (.cells (flat (acts w.heap.size)).toArray 33))).below ((Below.refl _ _).alloc (Nat.le_refl _) (.cells (iv wants).toArray 25))
  have a3 := (LRd.alloc ((w.alloc (.cells (iv [3, 1]).toArray 3)).alloc (.cells (iv [0, 9]).toArray 3)) (flat (acts w.heap.size)) 33).below ((Below.refl _ _).alloc (Nat.le_refl _) (.cells (iv wants).toArray 25))
  simp only [World.size_alloc] at a1 a2 a3
  refine ⟨a3.more (by omega) (by omega), fun d hd => ?_, acts_ok _⟩
  simp only [acts, List.mem_cons, List.not_mem_nil, or_false] at hd
  rcases hd with rfl | rfl | rfl | rfl | rfl | rfl | rfl | rfl | rfl | rfl | rfl
  case inr.inr.inr.inr.inr.inl => exact a1.more (by omega) (by omega)
  case inr.inr.inr.inr.inr.inr.inr.inl => exact a2.more (by omega) (by omega)
  all_goals (intro h0; exact absurd h0 (by decide))

theorem uns_does {n fb : Nat} {w0 w : World} (h : Run n w0 fb (run10 5) w) : Calls Try.prog 19 #[.pointer (some ⟨fb, 0, none⟩)] w fun e w' => ∃ A c, e = .returned (.slice A 2 c) ∧ 2 ≤ c ∧ c ≤ maxLen ∧ LRd w' w.heap.size w'.heap.size A (iv [5, 2]) ∧ Below w.heap.size w w' ∧ Run n w0 fb (run10 5) w' := by
  have hl : (run10 5).files.length = 2 := by decide +kernel
  refine (uns_run h).mono ?_
  rintro e w' ⟨A, c, he, h1, h2, h3, h4⟩
  rw [run_air] at h3
  rw [hl] at he h1
  exact ⟨A, c, he, h1, h2, h3, h4, h.move h4⟩
theorem num_does (A1 A2 : Option Addr) (c d lo hi lo2 hi2 : Nat) (w : World) (h1 : LRd w lo hi A1 (iv [5, 2])) (h2 : LRd w lo2 hi2 A2 (iv [5, 2])) :
    Calls Try.prog 14 #[.slice A1 2 c, .slice A2 2 d] w fun e w' => e = .returned (.bool true) ∧ Below w.heap.size w w' :=
  numbers_l A1 A2 c d 2 2 lo hi lo2 hi2 [5, 2] [5, 2] w rfl rfl (by omega) (by omega) h1 h2
theorem up_alloc {w : World} (o : Obj) : Below w.heap.size w (w.alloc o) := (Below.refl _ w).alloc (Nat.le_refl _) o

set_option maxHeartbeats 8000000 in
set_option maxRecDepth 100000 in
theorem does_is (w : World) : Calls Try.prog 16 #[] w fun e w' => e = .returned (.bool true) ∧ Below w.heap.size w w' := by
  have hW := Lib.hid (laid_below w)
  have hz := laid_size w
  have hD := Lib.hid (laid_dos w)
  have hV := Lib.hid (laid_wants w)
  have C0 := new_run 10 (laid w) (by omega) (by omega)
  rw [laid_size] at C0
  have C0 := Lib.hid C0
  go_enter Try.func16, Try.ntmps16
  go_wp2_with fail
  change Calls _ _ _ (laid w) _
  generalize laid w = W0 at *
  refine C0.out.mono ?_
  rintro e w1 ⟨rfl, hR⟩
  clear C0
  generalize hn0 : w.heap.size = N at *
  have hn0 := Lib.hid hn0
  go_wp2
  go_loopg [5] 11 (fun g s5 wr => ∃ i : Nat, s5 = .int .i64 i ∧ i ≤ 11 ∧ 11 - i ≤ g ∧ Run (N + 4) W0 (N + 4 + 1) (run10 i) wr)
  case atStart => exact ⟨0, rfl, by omega, by omega, hR⟩
  case round =>
    obtain ⟨i, rfl, hi, hg, hRi⟩ := hrel
    by_cases hlt : i < 11
    · obtain ⟨d, hd⟩ : ∃ d, (acts N)[i]? = some d := ⟨(acts N)[i]'hlt, List.getElem?_eq_getElem _⟩
      have hst := run_step N i hlt d hd
      have hdm := List.mem_of_getElem? hd
      have hWr := hRi.below
      obtain ⟨b, off, hA, hb, g0, g1, g2, g3, g4, g5⟩ := (hD.out.belowN hWr).at hd
      injection hA with hA; injection hA with hA1 hA2; subst hA1; subst hA2
      obtain ⟨b', off', hA', h2'⟩ := (hV.out.belowN hWr).ints (by decide)
      injection hA' with hA'; injection hA' with hA1 hA2; subst hA1; subst hA2
      have v0 := h2' i hlt
      rw [Nat.zero_add] at v0
      simp only [Nat.zero_add] at g0 g1 g2 g3 g4 g5
      have hk := (hD.out.belowN hWr).lists d hdm
      have hok := hD.out.ok d hdm
      have hfew := run_few i
      have H1 := Lib.hid h2'
      clear h2'
      have HC : ∀ q, Calls Try.prog 12 #[.pointer (some ⟨N + 4 + 1, 0, none⟩), d.val] (wr.drewN q) fun e w' => e = .returned (.int .i64 (wants.getD i 0)) ∧ Run (N + 4) W0 (N + 4 + 1) (run10 (i + 1)) w' ∧ w'.cell? ⟨N + 1 + 1 + 1, i, none⟩ = some (.int .i64 (wants.getD i 0)) := fun q =>
        (with_run d hok (hk.belowN (below_drewN (Below.refl _ _) q)) (by omega) (hRi.move (below_drewN (Below.refl _ _) q))).mono fun e w' ⟨he, hR'⟩ => by
          rw [hst] at he hR'
          refine ⟨he, hR', ?_⟩
          exact (Below.cell (p := ⟨N + 1 + 1 + 1, i, none⟩) hR'.below (show N + 1 + 1 + 1 < N + 4 by omega)).trans ((Below.cell (p := ⟨N + 1 + 1 + 1, i, none⟩) hWr (show N + 1 + 1 + 1 < N + 4 by omega)).symm.trans v0)
      have HC := Lib.hid HC
      have HR := Lib.hid hRi
      have HS := Lib.hid hst
      generalize hwn : wants.getD i 0 = z at *
      have HW := Lib.hid hWr
      clear hk hok hfew hst hRi hdm hWr hR
      unfold Dt.val at HC
      by_cases h4 : i = 4
      · subst h4
        have hzz : (z != z) = false := by simp
        have C2 : Hid (∀ W, Run (N + 4) W0 (N + 4 + 1) (run10 (4 + 1)) W → Calls Try.prog 19 #[.pointer (some ⟨N + 4 + 1, 0, none⟩)] W fun e w' => ∃ A c, e = .returned (.slice A 2 c) ∧ 2 ≤ c ∧ c ≤ maxLen ∧ LRd w' W.heap.size w'.heap.size A (iv [5, 2]) ∧ Below W.heap.size W w' ∧ Run (N + 4) W0 (N + 4 + 1) (run10 (4 + 1)) w') := Lib.hid fun W h => uns_does h
        clear hd H1
        go_wp2_with fail
        first
          | go_region_with (first
              | (go_at_call 12; refine (HC.out _).mono ?_; rintro e w2 ⟨rfl, hR2, z1⟩)
              | (go_at_call 19; refine (C2.out _ ?_).mono ?_; (first | exact hR2 | exact hR2.move (up_alloc _)); rintro e w3 ⟨A3, c3, rfl, y1, y2, y3, y4, hR3⟩)
              | (go_at_call 14; refine (num_does A3 _ c3 _ _ _ _ _ _ (by first | exact y3 | exact y3.below (up_alloc _)) (by first | exact LRd.alloc _ (iv [5, 2]) 3 | exact (LRd.alloc _ (iv [5, 2]) 3).below y4)).mono ?_; rintro e w4 ⟨rfl, y5⟩))
          | fail
        all_goals
          go_wp2
          go_roundg (11 - (4 + 1))
          case measure => omega
          case rel => exact ⟨4 + 1, by go_num, by omega, by omega, by first | exact hR3.move y5 | exact (hR3.move (up_alloc _)).move y5⟩
      · have hn4 : ((i : Int) == 4) = false := by simp; omega
        have hn4' : ¬ (i : Int) = 4 := by omega
        have hzz : (z != z) = false := by simp
        clear hd H1
        go_wp2_with fail
        first
          | go_region_with ((go_at_call 12; refine (HC.out _).mono ?_; rintro e w2 ⟨rfl, hR2, z1⟩))
          | fail
        all_goals
          go_wp2
          go_roundg (11 - (i + 1))
          case measure => omega
          case rel => exact ⟨i + 1, by go_num, by omega, by omega, by first | exact hR2 | exact hR2.move (below_drewN (Below.refl _ _) _)⟩
    · obtain rfl : i = 11 := by omega
      have hB := hRi.below
      have C1 := read_run ⟨#[97]⟩ (by decide) hRi
      have C2 := read_run ⟨#[98]⟩ (by decide) hRi
      have C3 := starts_run hRi
      rw [show (⟨#[97]⟩ : ByteArray).data.toList = [97] from rfl, run_a] at C1
      rw [show (⟨#[98]⟩ : ByteArray).data.toList = [98] from rfl, run_b] at C2
      rw [run_starts] at C3
      have C1 : Hid (Calls Try.prog 17 #[.pointer (some ⟨N + 4 + 1, 0, none⟩), .string ⟨#[97]⟩] wr fun e w' => e = .returned (.tuple #[.string ⟨#[49, 50, 51]⟩, .int .i64 0]) ∧ wr = w') := Lib.hid C1
      have C2 : Hid (Calls Try.prog 17 #[.pointer (some ⟨N + 4 + 1, 0, none⟩), .string ⟨#[98]⟩] wr fun e w' => e = .returned (.tuple #[.string ⟨#[120, 121, 113]⟩, .int .i64 0]) ∧ wr = w') := Lib.hid C2
      have C3 : Hid (Calls Try.prog 22 #[.pointer (some ⟨N + 4 + 1, 0, none⟩)] wr fun e w' => e = .returned (.int .i64 2) ∧ wr = w') := Lib.hid C3
      have HE : Hid (Below w.heap.size w wr) := Lib.hid (by rw [hn0.out]; exact hW.out.trans (hB.mono (by omega)))
      clear hB hD hV hR hRi hW
      go_wp2_with (first
        | (go_at_call 17; first | (refine C1.out.mono ?_; rintro e w' ⟨rfl, rfl⟩; clear C1) | (refine C2.out.mono ?_; rintro e w' ⟨rfl, rfl⟩))
        | (go_at_call 22; refine C3.out.mono ?_; rintro e w' ⟨rfl, rfl⟩))
      go_ret
      exact ⟨rfl, HE.out⟩
end Go.Proofs.Ytpdegpppeepphaa.fil
