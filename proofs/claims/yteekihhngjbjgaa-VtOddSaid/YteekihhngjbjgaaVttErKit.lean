/- VtErase: what its escapes do; the loops' words. -/
import Derived.Test.YteekihhngjbjgaaVttLawKit
namespace Go.Proofs.Yteekihhngjbjgaa.vtt
open Go.RowKit Go.Lib Go.Proofs.Yteekihhngjbjgaa.grd
set_option linter.unusedVariables false
set_option linter.unusedSimpArgs false
set_option linter.unnecessarySimpa false
set_option linter.unusedSectionVars false

theorem er0 (s : Ts) (h : s.esc ≤ 2) : feed s [27, 91, 74] = { s with ls := wipeIf (pJ s.r s.k) s.ls, p := digest [], esc := 0 } := by
  rw [show ([27, 91, 74] : List UInt8) = 27 :: 91 :: ([] ++ [74]) from rfl, feed_cmd s h [] (by decide) 74 (by decide) (by decide)]
  rfl
theorem er1 (s : Ts) (h : s.esc ≤ 2) : feed s [27, 91, 48, 74] = { s with ls := wipeIf (pJ s.r s.k) s.ls, p := digest [48], esc := 0 } := by
  rw [show ([27, 91, 48, 74] : List UInt8) = 27 :: 91 :: ([48] ++ [74]) from rfl, feed_cmd s h [48] (by decide) 74 (by decide) (by decide)]
  rfl
theorem er2 (s : Ts) (h : s.esc ≤ 2) : feed s [27, 91, 50, 74] = { s with ls := wipeIf (pA) s.ls, p := digest [50], esc := 0 } := by
  rw [show ([27, 91, 50, 74] : List UInt8) = 27 :: 91 :: ([50] ++ [74]) from rfl, feed_cmd s h [50] (by decide) 74 (by decide) (by decide)]
  rfl
theorem er3 (s : Ts) (h : s.esc ≤ 2) : feed s [27, 91, 75] = { s with ls := wipeIf (p0 s.r s.k) s.ls, p := digest [], esc := 0 } := by
  rw [show ([27, 91, 75] : List UInt8) = 27 :: 91 :: ([] ++ [75]) from rfl, feed_cmd s h [] (by decide) 75 (by decide) (by decide)]
  rfl
theorem er4 (s : Ts) (h : s.esc ≤ 2) : feed s [27, 91, 48, 75] = { s with ls := wipeIf (p0 s.r s.k) s.ls, p := digest [48], esc := 0 } := by
  rw [show ([27, 91, 48, 75] : List UInt8) = 27 :: 91 :: ([48] ++ [75]) from rfl, feed_cmd s h [48] (by decide) 75 (by decide) (by decide)]
  rfl
theorem er5 (s : Ts) (h : s.esc ≤ 2) : feed s [27, 91, 50, 75] = { s with ls := wipeIf (pK s.r) s.ls, p := digest [50], esc := 0 } := by
  rw [show ([27, 91, 50, 75] : List UInt8) = 27 :: 91 :: ([50] ++ [75]) from rfl, feed_cmd s h [50] (by decide) 75 (by decide) (by decide)]
  rfl
theorem er6 (s : Ts) (h : s.esc ≤ 2) : feed s [27, 91, 49, 74] = { s with ls := s.ls, p := digest [49], esc := 0 } := by
  rw [show ([27, 91, 49, 74] : List UInt8) = 27 :: 91 :: ([49] ++ [74]) from rfl, feed_cmd s h [49] (by decide) 74 (by decide) (by decide)]
  rfl
theorem er7 (s : Ts) (h : s.esc ≤ 2) : feed s [27, 91, 51, 75] = { s with ls := s.ls, p := digest [51], esc := 0 } := by
  rw [show ([27, 91, 51, 75] : List UInt8) = 27 :: 91 :: ([51] ++ [75]) from rfl, feed_cmd s h [51] (by decide) 75 (by decide) (by decide)]
  rfl
theorem er8 (s : Ts) (h : s.esc ≤ 2) : feed s [27, 91, 48, 59, 48, 75] = { s with ls := s.ls, p := digest [48, 59, 48], esc := 0 } := by
  rw [show ([27, 91, 48, 59, 48, 75] : List UInt8) = 27 :: 91 :: ([48, 59, 48] ++ [75]) from rfl, feed_cmd s h [48, 59, 48] (by decide) 75 (by decide) (by decide)]
  rfl
/-- Behind some rounds. -/
structure Er (W : World) (lo bw h : Nat) (s : Ts) (Q : Nat → Nat → Bool) (w : World) : Prop where
  gb : Gb w lo bw h { s with ls := wipeIf Q s.ls }
  tn : Tn lo bw W w
theorem Er.start {W : World} {lo bw h : Nat} {s : Ts} (H : Gb W lo bw h s) (Q : Nat → Nat → Bool) (hq : ∀ a c, Q a c = false) : Er W lo bw h s Q W := by
  refine ⟨?_, Tn.refl _ _ _⟩
  rw [show Q = fun _ _ => false from funext fun a => funext fun c => hq a c, wipeIf_none]
  exact H
theorem Er.same {W w : World} {lo bw h : Nat} {s : Ts} {Q Q' : Nat → Nat → Bool} (H : Er W lo bw h s Q w) (ok : Ok s) (hq : ∀ a c, a < s.n → c < s.m → Q a c = Q' a c) : Er W lo bw h s Q' w := by
  refine ⟨?_, H.tn⟩
  rw [wipeIf_ext (q := Q) (p := Q') (fun i l j hl hj => (hq i j (by have := (List.getElem?_eq_some_iff.1 hl).1; have := ok.len; omega) (by have := (ok.row l (List.mem_of_getElem? hl)).1; omega)).symm)]
  exact H.gb
/-- One cell is made a blank. -/
theorem Er.put {W w : World} {lo bw h : Nat} {s : Ts} {Q Q' : Nat → Nat → Bool} (H : Er W lo bw h s Q w) (ok : Ok s) (i j : Nat) (hi : i < s.n) (hj : j < s.m) (hq : ∀ a c, a < s.n → c < s.m → (Q a c || (decide (a = i) && decide (c = j))) = Q' a c) :
    ∃ b d v, w.cell? ⟨h, i, none⟩ = some (.slice (some ⟨b, 0, none⟩) s.m d) ∧ w.cell? ⟨b, j, none⟩ = some v ∧ w.frozen? ⟨b, j, none⟩ = false ∧ b < bw ∧ h < bw ∧ Er W lo bw h s Q' (w.setCell ⟨b, j, none⟩ (.int .u8 32)) := by
  have hlen : (wipeIf Q s.ls).length = s.n := by rw [wipeIf_len]; exact ok.len
  obtain ⟨l, hl⟩ : ∃ l, (wipeIf Q s.ls)[i]? = some l := ⟨_, List.getElem?_eq_getElem (by omega)⟩
  have hlm := (wipeIf_row (p := Q) ok.row l (List.mem_of_getElem? hl)).1
  obtain ⟨x, hx⟩ : ∃ x, l[j]? = some x := ⟨_, List.getElem?_eq_getElem (by omega)⟩
  obtain ⟨hb, b, d, e, c1, c2, c3, c4, c5, c6, c7, c8⟩ := H.gb.own.spot i j l x hl hx
  injection e with e
  injection e with e _
  subst e
  rw [hlm] at c1
  refine ⟨b, d, _, c1, c2, c3, c5, c7, ?_⟩
  have hE : Er W lo bw h s (fun a c => Q a c || (decide (a = i) && decide (c = j))) (w.setCell ⟨b, j, none⟩ (.int .u8 32)) := by
    refine ⟨⟨H.gb.blk.far (p := ⟨b, j, none⟩) (by show bw ≠ b; omega) _, ?_, H.gb.le⟩, H.tn.trans (Tn.of_but ((But.refl b w).setCell j _) c4 c5)⟩
    have := c8 32
    rw [wipeIf_set] at this
    exact this
  exact hE.same ok hq
theorem Er.fin {W w : World} {lo bw h : Nat} {s : Ts} {Q : Nat → Nat → Bool} (H : Er W lo bw h s Q w) {P : Nat → Nat → Bool} (ok : Ok s) (hq : ∀ a c, a < s.n → c < s.m → Q a c = P a c) (p : Pm) (e : Nat) : Gb w lo bw h { s with ls := wipeIf P s.ls, p := p, esc := e } := by
  have := (H.same ok hq).gb
  exact ⟨this.blk, this.own, this.le⟩
def rows (P : Nat → Nat → Bool) (i : Nat) (a c : Nat) : Bool := P a c && decide (a < i)
def cells (P : Nat → Nat → Bool) (i j : Nat) (a c : Nat) : Bool := P a c && (decide (a < i) || (decide (a = i) && decide (c < j)))
theorem cells_yes (P : Nat → Nat → Bool) (i j : Nat) (h : P i j = true) (a c : Nat) : (cells P i j a c || (decide (a = i) && decide (c = j))) = cells P i (j + 1) a c := by
  unfold cells
  by_cases ha : a = i
  · subst ha
    by_cases hc : c = j
    · subst hc; simp [h]
    · have e : decide (c < j + 1) = decide (c < j) := by rw [Bool.eq_iff_iff]; simp; omega
      rw [e]; simp [hc]
  · simp [ha]
theorem cells_no (P : Nat → Nat → Bool) (i j : Nat) (h : P i j = false) (a c : Nat) : cells P i j a c = cells P i (j + 1) a c := by
  unfold cells
  by_cases ha : a = i
  · subst ha
    by_cases hc : c = j
    · subst hc; simp [h]
    · have e : decide (c < j + 1) = decide (c < j) := by rw [Bool.eq_iff_iff]; simp; omega
      rw [e]
  · simp [ha]
theorem cells_zero (P : Nat → Nat → Bool) (i a c : Nat) : rows P i a c = cells P i 0 a c := by unfold rows cells; simp
theorem cells_all (P : Nat → Nat → Bool) (i m a c : Nat) (hc : c < m) : cells P i m a c = rows P (i + 1) a c := by
  unfold rows cells
  have e : (decide (a < i) || (decide (a = i) && decide (c < m))) = decide (a < i + 1) := by rw [Bool.eq_iff_iff]; simp; omega
  rw [e]
theorem rows_zero (P : Nat → Nat → Bool) (a c : Nat) : rows P 0 a c = false := by unfold rows; simp
theorem rows_all (P : Nat → Nat → Bool) (n a c : Nat) (ha : a < n) : rows P n a c = P a c := by unfold rows; simp [ha]
end Go.Proofs.Yteekihhngjbjgaa.vtt
