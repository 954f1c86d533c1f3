/- Classes: bytes laid into a set that lies in memory. -/
import Derived.Test.YtmemdmjfccepgaaClsClass
import Derived.Test.YtmemdmjfccepgaaClsRead
import Derived.Lib.IndexMore
namespace Go.Proofs.Ytmemdmjfccepgaa.cls
open Go.RowKit Go.Lib
set_option linter.unusedVariables false
set_option linter.unusedSimpArgs false
set_option linter.unnecessarySimpa false
set_option linter.unusedSectionVars false

/-- The bytes from a to below k are there, too. -/
theorem lay_upd (f : Nat → Bool) (a k : Nat) (h : a ≤ k) : upd (fun c => f c || (decide (a ≤ c) && decide (c < k))) k true = fun c => f c || (decide (a ≤ c) && decide (c < k + 1)) := by
  funext c
  unfold upd
  by_cases hc : c = k
  · subst hc
    simp [h]
  · rw [if_neg hc]
    have e : decide (c < k) = decide (c < k + 1) := by
      rw [Bool.eq_iff_iff, decide_eq_true_eq, decide_eq_true_eq]
      omega
    show (f c || (decide (a ≤ c) && decide (c < k))) = (f c || (decide (a ≤ c) && decide (c < k + 1)))
    rw [e]

set_option maxHeartbeats 1000000 in
set_option maxRecDepth 100000 in
theorem lay_is (w : World) (p a b : Nat) (f : Nat → Bool) (ha : a < 256) (hb : b < 256) (h : Arr w p f) :
    Calls Try.prog 36 #[.pointer (some ⟨p, 0, none⟩), .int .u8 (a : Int), .int .u8 (b : Int)] w fun e w' => e = .returned (.tuple #[]) ∧ Arr w' p (or2 f (btw a b)) ∧ But p w w' := by
  have H := Lib.hid h
  clear h
  go_enter Try.func36, Try.ntmps36
  go_wp2
  go_loopg [6] 256 (fun g s6 wr => ∃ k : Nat, s6 = .int .i64 k ∧ a ≤ k ∧ k ≤ 256 ∧ (k ≤ b + 1 ∨ k = a) ∧ 256 - k ≤ g ∧ Hid (Arr wr p (fun c => f c || (decide (a ≤ c) && decide (c < k))) ∧ But p w wr))
  case atStart =>
    refine ⟨a, rfl, Nat.le_refl _, by omega, .inr rfl, by omega, Lib.hid ⟨?_, But.refl⟩⟩
    have e : (fun c => f c || (decide (a ≤ c) && decide (c < a))) = f := by
      funext c
      have : (decide (a ≤ c) && decide (c < a)) = false := by simp
      rw [this, Bool.or_false]
    rw [e]; exact H.out
  case round =>
    obtain ⟨k, rfl, h1, h2, h3, hg, HI⟩ := hrel
    have H3 := Lib.hid h3
    clear h3
    by_cases hlt : k ≤ b
    · have hk : k < 256 := by omega
      have hc := HI.out.1.cell hk
      have hst := setCell_put HI.out.1 k true hk
      rw [lay_upd f a k h1] at hst
      have hfz := HI.out.1.frozen k
      have HP := Lib.hid (And.intro (putA_arr (g := fun c => f c || (decide (a ≤ c) && decide (c < k + 1))) HI.out.1.lt) (putA_but (w := wr) (b := p) (g := fun c => f c || (decide (a ≤ c) && decide (c < k + 1)))))
      have HC := Lib.hid hc
      obtain ⟨x, hx⟩ : ∃ x, (fun c => f c || (decide (a ≤ c) && decide (c < k))) k = x := ⟨_, rfl⟩
      rw [show (f k || (decide (a ≤ k) && decide (k < k))) = x from hx] at hc
      obtain ⟨wx, hwx⟩ : ∃ wx, putA wr p (fun c => f c || (decide (a ≤ c) && decide (c < k + 1))) = wx := ⟨_, rfl⟩
      rw [hwx] at hst HP
      clear hwx hx
      go_wp2
      go_roundg (256 - (k + 1))
      case measure => omega
      case rel => exact ⟨k + 1, by go_num, by omega, by omega, .inl (by omega), by omega, Lib.hid ⟨HP.out.1, HI.out.2.trans HP.out.2⟩⟩
    · go_wp2
      go_end0
      refine ⟨rfl, ?_, HI.out.2⟩
      have := HI.out.1
      unfold Arr at this ⊢
      rw [this]
      congr 2
      refine arr_ext fun c hc => ?_
      have h3 := H3.out
      have e : (decide (a ≤ c) && decide (c < k)) = btw a b c := by
        unfold btw
        rw [Bool.eq_iff_iff]
        simp only [Bool.and_eq_true, decide_eq_true_eq]
        omega
      show (f c || (decide (a ≤ c) && decide (c < k))) = or2 f (btw a b) c
      rw [e]
      rfl
end Go.Proofs.Ytmemdmjfccepgaa.cls
