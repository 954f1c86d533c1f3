/- Logs, the laws: two lists of the same texts are the same lines. -/
import Derived.Test.YtdbeedhedjhamaaWords
import Derived.Lib.Strings
import Derived.Lib.Walk
import Derived.Lib.Hide
namespace Go.Proofs.Ytdbeedhedjhamaa.lgs
open Go.RowKit Go.Lib
set_option linter.unusedVariables false
set_option linter.unusedSimpArgs false

theorem same_lines (A1 A2 : Option Addr) (c d n₀ n m : Nat) (xs : List ByteArray) (w : World) (hn : n = xs.length) (hm : m = xs.length) (hb1 : n ≤ 9223372036854775807) (h1 : SRd w n₀ A1 xs) (h2 : SRd w n₀ A2 xs) :
    Calls Try.prog 27 #[.slice A1 n c, .slice A2 m d] w fun e w' => e = .returned (.bool true) ∧ ∃ q, w' = w.drewN q := by
  obtain rfl : m = n := hm.trans hn.symm
  have H1 := Lib.hid hn
  clear hn hm
  go_enter Try.func27, Try.ntmps27
  go_wp2
  go_loopg [5] m (fun g s13 wr => ∃ k q : Nat, k ≤ m ∧ m - k ≤ g ∧ s13 = .int .i64 k ∧ wr = w.drewN q)
  case atStart => exact ⟨0, 0, Nat.zero_le _, by omega, rfl, rfl⟩
  case round =>
    obtain ⟨k, q, hk, hg, rfl, rfl⟩ := hrel
    by_cases hlt : k < m
    · obtain ⟨p1, o1, rfl, _, hc1⟩ := h1 (by rw [← H1.out]; omega)
      obtain ⟨p2, o2, rfl, _, hc2⟩ := h2 (by rw [← H1.out]; omega)
      have g1 : w.cell? ⟨p1, o1 + k, none⟩ = some (.string (xs.getD k ByteArray.empty)) := hc1 k (by rw [← H1.out]; omega)
      have g2 : w.cell? ⟨p2, o2 + k, none⟩ = some (.string (xs.getD k ByteArray.empty)) := hc2 k (by rw [← H1.out]; omega)
      clear hc1 hc2 h1 h2
      generalize xs.getD k ByteArray.empty = x at g1 g2
      go_wp2_with fail
      go_region
      go_wp2
      go_roundg (m - (k + 1))
      case measure => omega
      case rel => exact ⟨k + 1, q + 1, by omega, by omega, by go_num, rfl⟩
    · go_wp2
      go_ret
      exact ⟨rfl, q, rfl⟩
end Go.Proofs.Ytdbeedhedjhamaa.lgs
