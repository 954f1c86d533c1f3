/- Terminals: the document's commands. -/
import Derived.Test.YteekihhngjbjgaaVttRefPlain
import Derived.Test.YteekihhngjbjgaaGrdClone
import Derived.Test.YteekihhngjbjgaaVttObey
import Derived.Test.YteekihhngjbjgaaVttRefBlank
import Derived.StillTailTactics
import Derived.RegionTactic
import Derived.BigRegion
namespace Go.Proofs.Yteekihhngjbjgaa.vtt
open Go.RowKit Go.Lib Go.Proofs.Yteekihhngjbjgaa.grd
set_option linter.unusedVariables false
set_option linter.unusedSimpArgs false
set_option linter.unnecessarySimpa false
set_option linter.unusedSectionVars false

theorem numbers_bad (q : List UInt8) (w : World) (hq : q.length ≤ 1000000) (hd : (digest q).bad = true) :
    Calls Try.prog 48 #[.string (B q)] w fun e w' => Below w.heap.size w w' ∧ (e = .returned (.tuple #[.slice none 0 0, .bool false]) ∨ ∃ g c k, e = .returned (.tuple #[.slice (some ⟨g, 0, none⟩) k c, .bool true]) ∧ 2 < k) := by
  refine (numbers_is (B q) w (by rw [B_size]; exact hq)).mono ?_
  rintro e w' ⟨hB, ⟨rfl, _⟩ | ⟨ns, g, c, rfl, hN, _⟩⟩
  · exact ⟨hB, .inl rfl⟩
  · rw [list_B] at hN
    rcases hN with ⟨x, rfl, hx, e⟩ | ⟨x, y, rfl, hx, hy, e⟩ | ⟨h, _⟩
    · rw [e] at hd; cases hd
    · rw [e] at hd; cases hd
    · exact ⟨hB, .inr ⟨g, c, _, rfl, h⟩⟩
theorem numbers_one (q : List UInt8) (w : World) (hq : q.length ≤ 1000000) (a b : Nat) (hd : digest q = ⟨a, b, 0, false⟩) :
    Calls Try.prog 48 #[.string (B q)] w fun e w' => Below w.heap.size w w' ∧ ∃ x g c cs, e = .returned (.tuple #[.slice (some ⟨g, 0, none⟩) 1 c, .bool true]) ∧ rng x ∧ (max x 0).toNat = a ∧ At w' g 3 cs ∧ cs[0]? = some (.int .i64 x) ∧ b = 0 := by
  refine (numbers_is (B q) w (by rw [B_size]; exact hq)).mono ?_
  rintro e w' ⟨hB, ⟨rfl, h⟩ | ⟨ns, g, c, rfl, hN, hO⟩⟩
  · rw [list_B, hd] at h; cases h
  · rw [list_B, hd] at hN
    rcases hN with ⟨x, rfl, hx, e⟩ | ⟨x, y, rfl, hx, hy, e⟩ | ⟨_, _, h⟩
    · obtain ⟨g', cs, e', _, h1, h2⟩ := own_block' hO
      injection e' with e' _
      subst e'
      injection e with ea eb _ _
      exact ⟨hB, x, _, c, cs, rfl, hx, ea.symm, h1, h2 0 _ rfl, eb⟩
    · injection e with _ _ e _; cases e
    · cases h
theorem numbers_two (q : List UInt8) (w : World) (hq : q.length ≤ 1000000) (a b last : Nat) (hl : 0 < last) (hd : digest q = ⟨a, b, last, false⟩) :
    Calls Try.prog 48 #[.string (B q)] w fun e w' => Below w.heap.size w w' ∧ ∃ x y g c cs, e = .returned (.tuple #[.slice (some ⟨g, 0, none⟩) 2 c, .bool true]) ∧ rng x ∧ rng y ∧ (max x 0).toNat = a ∧ (max y 0).toNat = b ∧ At w' g 3 cs ∧ cs[0]? = some (.int .i64 x) ∧ cs[1]? = some (.int .i64 y) := by
  refine (numbers_is (B q) w (by rw [B_size]; exact hq)).mono ?_
  rintro e w' ⟨hB, ⟨rfl, h⟩ | ⟨ns, g, c, rfl, hN, hO⟩⟩
  · rw [list_B, hd] at h; cases h
  · rw [list_B, hd] at hN
    rcases hN with ⟨x, rfl, hx, e⟩ | ⟨x, y, rfl, hx, hy, e⟩ | ⟨_, _, h⟩
    · injection e with _ _ e _; omega
    · obtain ⟨g', cs, e', _, h1, h2⟩ := own_block' hO
      injection e' with e' _
      subst e'
      injection e with ea eb _ _
      exact ⟨hB, x, y, _, c, cs, rfl, hx, hy, ea.symm, eb.symm, h1, h2 0 _ rfl, h2 1 _ rfl⟩
    · cases h
theorem below_row {m r k i j : Nat} (hj : j < m) (hk : k < m) : r * m + k ≤ i * m + j ↔ (i = r ∧ k ≤ j) ∨ r < i := by
  rcases Nat.lt_trichotomy i r with h | h | h
  · have := Nat.mul_le_mul_right m (show i + 1 ≤ r from h)
    rw [Nat.add_mul, Nat.one_mul] at this
    omega
  · subst h; omega
  · have := Nat.mul_le_mul_right m (show r + 1 ≤ i from h)
    rw [Nat.add_mul, Nat.one_mul] at this
    omega
theorem above_row {m r i j : Nat} (hj : j < m) : i * m + j < r * m ↔ i < r := by
  have := below_row (m := m) (r := r) (k := 0) (i := i) (j := j) hj (by omega)
  omega
section
variable {n m : Nat} {ls : List (List UInt8)} {r k : Nat}
theorem wipe_J (hr : ∀ l ∈ ls, l.length = m) (hn : ls.length = n) (hk : k < m) : wipeIf (pS m (r * m + k) (n * m)) ls = wipeIf (pJ r k) ls := wipeIf_ext fun i l j hl hj => by
  have hjm : j < m := by rw [hr l (List.mem_of_getElem? hl)] at hj; exact hj
  have hi := (List.getElem?_eq_some_iff.1 hl).1
  have h1 := below_row (r := r) (i := i) hjm hk
  have h2 := above_row (r := n) (i := i) hjm
  unfold pS pJ
  rw [Bool.eq_iff_iff]
  simp only [Bool.or_eq_true, Bool.and_eq_true, decide_eq_true_eq]
  rw [h1, h2]; omega
theorem wipe_A (hr : ∀ l ∈ ls, l.length = m) (hn : ls.length = n) : wipeIf (pS m 0 (n * m)) ls = wipeIf pA ls := wipeIf_ext fun i l j hl hj => by
  have hjm : j < m := by rw [hr l (List.mem_of_getElem? hl)] at hj; exact hj
  have hi := (List.getElem?_eq_some_iff.1 hl).1
  have h2 := above_row (r := n) (i := i) hjm
  show (decide (0 ≤ i * m + j) && decide (i * m + j < n * m)) = true
  rw [Bool.and_eq_true, decide_eq_true_eq, decide_eq_true_eq]
  exact ⟨Nat.zero_le _, h2.2 (by omega)⟩
theorem wipe_0 (hr : ∀ l ∈ ls, l.length = m) (hk : k < m) : wipeIf (pS m (r * m + k) (r * m + m)) ls = wipeIf (p0 r k) ls := wipeIf_ext fun i l j hl hj => by
  have hjm : j < m := by rw [hr l (List.mem_of_getElem? hl)] at hj; exact hj
  have h1 := below_row (r := r) (i := i) hjm hk
  have h2 := above_row (r := r + 1) (i := i) hjm
  rw [Nat.add_mul, Nat.one_mul] at h2
  unfold pS p0
  rw [Bool.eq_iff_iff]
  simp only [Bool.and_eq_true, decide_eq_true_eq]
  rw [h1, h2]; omega
theorem wipe_K (hr : ∀ l ∈ ls, l.length = m) (hm : 0 < m) : wipeIf (pS m (r * m) (r * m + m)) ls = wipeIf (pK r) ls := wipeIf_ext fun i l j hl hj => by
  have hjm : j < m := by rw [hr l (List.mem_of_getElem? hl)] at hj; exact hj
  have h1 := below_row (r := r) (k := 0) (i := i) hjm hm
  have h2 := above_row (r := r + 1) (i := i) hjm
  rw [Nat.add_mul, Nat.one_mul] at h2
  rw [Nat.add_zero] at h1
  unfold pS pK
  rw [Bool.eq_iff_iff]
  simp only [Bool.and_eq_true, decide_eq_true_eq]
  rw [h1, h2]; omega
end
theorem pNine {n m : Nat} (h : 2 ≤ n ∧ n ≤ 60 ∧ 8 ≤ m ∧ m ≤ 132) : n * m ≤ 8000 := Nat.le_trans (Nat.mul_le_mul h.2.1 h.2.2.2) (by decide)
theorem Rent.eq {lo rb N : Nat} {s s' : Ts} {w w' : World} (h : Rent lo rb N s w w') (e : s = s') : Rent lo rb N s' w w' := e ▸ h
end Go.Proofs.Yteekihhngjbjgaa.vtt
