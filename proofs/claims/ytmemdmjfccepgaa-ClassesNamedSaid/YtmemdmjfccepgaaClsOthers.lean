/- Classes: the bytes that a set has not. -/
import Derived.Test.YtmemdmjfccepgaaClsArr
namespace Go.Proofs.Ytmemdmjfccepgaa.cls
open Go.RowKit Go.Lib
set_option linter.unusedVariables false
set_option linter.unusedSimpArgs false
set_option linter.unnecessarySimpa false
set_option linter.unusedSectionVars false

/-- Below k as g says, else as f says. -/
def mix (k : Nat) (g f : Nat → Bool) : Nat → Bool := fun j => if j < k then g j else f j
theorem mix_zero (g f : Nat → Bool) : mix 0 g f = f := by funext j; simp [mix]
theorem mix_upd (k : Nat) (g f : Nat → Bool) : upd (mix k g f) k (g k) = mix (k + 1) g f := by
  funext j
  unfold upd mix
  by_cases h : j = k
  · subst h; simp
  · by_cases h2 : j < k
    · simp [h, h2, Nat.lt_succ_of_lt h2]
    · simp [h, h2, show ¬ j < k + 1 by omega]
theorem mix_end (g f : Nat → Bool) : arr (mix 256 g f) = arr g := arr_ext fun i hi => by simp [mix, hi]
theorem mix_at (k : Nat) (g f : Nat → Bool) : mix k g f k = f k := by simp [mix]

set_option maxHeartbeats 2000000 in
set_option maxRecDepth 100000 in
theorem others_is (w : World) (f : Nat → Bool) :
    Calls Try.prog 20 #[.agg (arr f)] w fun e w' => e = .returned (.agg (arr (not1 f))) ∧ Below w.heap.size w w' := by
  go_enter Try.func20, Try.ntmps20
  go_wp2_with (first | (refine wpList_boxA rfl _ rfl f rfl ?_; intro w1 hs1 ha1 hb1) | (refine wpList_allocA rfl rfl ?_; intro w2 hs2 ha2 hb2))
  have e1 : w1.heap.size = w.heap.size + 1 := hs1
  have hA : Arr w2 w.heap.size f := ha1.keep hb2 (by omega)
  have HA := Lib.hid hA
  have H2 := Lib.hid ha2
  have HB := Lib.hid (hb1.trans (hb2.mono (by omega)))
  clear ha1 ha2 hb1 hb2 hA
  go_loopg [4] 256 (fun g s4 wr => ∃ k : Nat, s4 = .int .i64 k ∧ k ≤ 256 ∧ 256 - k ≤ g ∧ Hid (Arr wr w.heap.size (mix k (not1 f) f) ∧ But w.heap.size w2 wr))
  case atStart => exact ⟨0, rfl, Nat.zero_le _, by omega, Lib.hid ⟨by rw [mix_zero]; exact HA.out, But.refl⟩⟩
  case round =>
    obtain ⟨k, rfl, hk, hg, HI⟩ := hrel
    by_cases hlt : k < 256
    · have hc := HI.out.1.cell hlt
      rw [mix_at] at hc
      have hst := setCell_put HI.out.1 k (!f k) hlt
      have e3 : upd (mix k (not1 f) f) k (!f k) = mix (k + 1) (not1 f) f := mix_upd k (not1 f) f
      rw [e3] at hst
      clear e3
      have hf := HI.out.1.frozen k
      have HP := Lib.hid (And.intro (putA_arr (g := mix (k + 1) (not1 f) f) HI.out.1.lt) (putA_but (w := wr) (b := w.heap.size) (g := mix (k + 1) (not1 f) f)))
      go_wp2
      go_roundg (256 - (k + 1))
      case measure => omega
      case rel => exact ⟨k + 1, by go_num, by omega, by omega, Lib.hid ⟨HP.out.1, HI.out.2.trans HP.out.2⟩⟩
    · obtain rfl : k = 256 := by omega
      have hA : Arr wr w.heap.size (mix 256 (not1 f) f) := HI.out.1
      have h2 : Arr wr (w.heap.size + 1) noB := by have := (H2.out).but HI.out.2 (by omega); rwa [e1] at this
      have hA' : Arr wr w.heap.size (not1 f) := by unfold Arr at hA ⊢; rw [mix_end] at hA; exact hA
      clear hA
      have hBB := (HB.out).trans (HI.out.2.below (Nat.le_refl _))
      go_wp2_with (first | (refine wpList_loadA rfl _ rfl _ rfl _ hA' ?_) | (refine wpList_storeA rfl _ _ rfl _ _ rfl rfl _ h2 ?_; intro w3 ha3 hb3))
      (try simp only [Exit.inBlock, Exit.then])
      refine bodyPost_ret (results_A1 rfl rfl ha3) rfl ?_
      exact ⟨rfl, hBB.trans (hb3.below (by omega))⟩
end Go.Proofs.Ytmemdmjfccepgaa.cls
