/- Marks: Line, isLetter; a splice by value. -/
import Derived.Test.YtdbeedhedjhamaaMrkArr
namespace Go.Proofs.Ytdbeedhedjhamaa.mrk
open Go.RowKit Go.Lib pce sps
set_option linter.unusedVariables false
set_option linter.unusedSimpArgs false
set_option linter.unnecessarySimpa false
set_option linter.unusedSectionVars false

theorem ln_flag {n a d : Int} {k : Nat} {x : Int} (h : ln n a d k = x) : decide (0 < ln n a d k) = decide (0 < x) := by rw [h]
set_option maxHeartbeats 1000000 in
set_option maxRecDepth 100000 in
/-- Line: where it is, and whether it is anywhere. -/
theorem line_is (n a d : Int) (A : Option Addr) (k c : Nat) (w : World) (z : Int) (hz : ln n a d k = z) (hn1 : -9223372036854775808 ≤ n) (hn2 : n ≤ 9223372036854775807) (ha1 : -9223372036854775808 ≤ a) (ha2 : a ≤ 9223372036854775807) (hd1 : -9223372036854775808 ≤ d) (hd2 : d ≤ 9223372036854775807) (hk : k ≤ 100000) :
    Calls Try.prog 51 #[.int .i64 n, .agg #[.int .i64 a, .int .i64 d, .slice A k c]] w fun e w' => e = .returned (.tuple #[.int .i64 z, .bool (decide (0 < z))]) ∧ w' = w.alloc (.cells #[.int .i64 a, .int .i64 d, .slice A k c] 24) := by
  subst hz
  by_cases h1 : n < 1
  · rw [ln_none (.inl h1)]
    go_enter Try.func51, Try.ntmps51
    go_wp2
    go_ret2
    exact ⟨rfl, rfl⟩
  by_cases h2 : a < 0
  · rw [ln_none (.inr (.inl h2))]
    go_enter Try.func51, Try.ntmps51
    go_wp2
    go_ret2
    exact ⟨rfl, rfl⟩
  by_cases h3 : d < 0
  · rw [ln_none (.inr (.inr h3))]
    go_enter Try.func51, Try.ntmps51
    go_wp2
    go_ret2
    exact ⟨rfl, rfl⟩
  by_cases h4 : n ≤ a
  · rw [ln_same (by omega) (by omega) (by omega) h4]
    have hp : decide (0 < n) = true := by simp; omega
    rw [hp]
    clear hp
    go_enter Try.func51, Try.ntmps51
    go_wp2
    go_ret2
    exact ⟨rfl, rfl⟩
  by_cases h5 : n - a ≤ d
  · rw [ln_gone (by omega) (by omega) (by omega) (by omega) h5]
    go_enter Try.func51, Try.ntmps51
    go_wp2
    go_ret2
    exact ⟨rfl, rfl⟩
  have hw0 : IntKind.i64.wrap (n - d) = n - d := by rw [IntKind.wrap_i64]; omega
  by_cases h6 : 9223372036854775807 < n - d + k
  · rw [ln_great (by omega) (by omega) (by omega) (by omega) (by omega) h6]
    have hw : IntKind.i64.wrap (n - d + k) = n - d + k - 18446744073709551616 := by rw [IntKind.wrap_i64]; omega
    go_enter Try.func51, Try.ntmps51
    go_wp2
    go_ret2
    exact ⟨rfl, rfl⟩
  · rw [ln_behind (by omega) (by omega) (by omega) (by omega) (by omega) (by omega)]
    have hp : decide (0 < n - d + k) = true := by simp; omega
    rw [hp]
    clear hp
    go_enter Try.func51, Try.ntmps51
    go_wp2
    go_ret2
    exact ⟨rfl, rfl⟩
/-- Is it a letter from a to z? -/
theorem letter_is (b : Nat) (hb : b < 256) (w : World) : Calls Try.prog 47 #[.int .u8 b] w fun e w' => e = .returned (.bool (decide (97 ≤ b ∧ b ≤ 122))) ∧ w' = w := by
  by_cases h1 : 97 ≤ b
  · by_cases h2 : b ≤ 122
    · have e : decide (97 ≤ b ∧ b ≤ 122) = true := by simp; omega
      have q : decide ((b : Int) ≤ 122) = true := by simp; omega
      rw [e]; clear e
      go_enter Try.func47, Try.ntmps47
      go_wp2
      go_ret
      exact ⟨rfl, rfl⟩
    · have e : decide (97 ≤ b ∧ b ≤ 122) = false := by simp; omega
      have q : decide ((b : Int) ≤ 122) = false := by simp; omega
      rw [e]; clear e
      go_enter Try.func47, Try.ntmps47
      go_wp2
      go_ret
      exact ⟨rfl, rfl⟩
  · have e : decide (97 ≤ b ∧ b ≤ 122) = false := by simp; omega
    rw [e]; clear e
    go_enter Try.func47, Try.ntmps47
    go_wp2
    go_ret
    exact ⟨rfl, rfl⟩
end Go.Proofs.Ytdbeedhedjhamaa.mrk
