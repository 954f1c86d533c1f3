/- Splices: Check, against; the law's Same of two. -/
import Derived.Test.YtdbeedhedjhamaaSplCells
import Derived.Test.YtdbeedhedjhamaaSplPure
namespace Go.Proofs.Ytdbeedhedjhamaa.sps
open Go.RowKit Go.Lib pce
set_option linter.unusedVariables false
set_option linter.unusedSimpArgs false
set_option linter.unnecessarySimpa false
set_option linter.unusedSectionVars false

set_option maxHeartbeats 1000000 in
set_option maxRecDepth 100000 in
/-- Check: the error as a number. -/
theorem check_is (a d : Int) (A : Option Addr) (n c : Nat) (ins : List ByteArray) (w : World) (k : Int) (hk : chkS a d ins = k) (ha1 : -9223372036854775808 ≤ a) (ha2 : a ≤ 9223372036854775807) (hd1 : -9223372036854775808 ≤ d) (hd2 : d ≤ 9223372036854775807)
    (hn : n = ins.length) (hb : n ≤ 100000) (h : SRd w w.heap.size A ins) :
    Calls Try.prog 67 #[.agg #[.int .i64 a, .int .i64 d, .slice A n c]] w fun e w' => e = .returned (.int .i64 k) ∧ Below w.heap.size w w' := by
  have C := Lib.hid (fun (W : World) (q : Int) (hq : chk ins = q) (hW : Below w.heap.size w W) => check18_b A c n ins W q hn hb hq ((h.below hW).more hW.size))
  have HK := Lib.hid hk
  clear hk hn h
  by_cases h1 : a < 0
  · obtain rfl : k = 2 := by have := HK.out; unfold chkS at this; rw [if_pos (.inl h1)] at this; exact this.symm
    go_enter Try.func67, Try.ntmps67
    go_wp2
    go_ret
    exact ⟨rfl, (Below.refl _ _).alloc (Nat.le_refl _) _⟩
  by_cases h2 : d < 0
  · obtain rfl : k = 2 := by have := HK.out; unfold chkS at this; rw [if_pos (.inr h2)] at this; exact this.symm
    go_enter Try.func67, Try.ntmps67
    go_wp2
    go_ret
    exact ⟨rfl, (Below.refl _ _).alloc (Nat.le_refl _) _⟩
  have HC : Hid (chk ins = k) := Lib.hid (by have := HK.out; unfold chkS at this; rw [if_neg (by omega)] at this; exact this)
  go_enter Try.func67, Try.ntmps67
  go_wp2_with fail
  go_at_call 41
  have hB0 : Below w.heap.size w (w.alloc (.cells #[.int .i64 a, .int .i64 d, .slice A n c] 24)) := (Below.refl _ _).alloc (Nat.le_refl _) _
  refine (C.out _ k HC.out hB0).mono ?_
  rintro e w1 ⟨rfl, hB1⟩
  have HB := Lib.hid (hB0.trans (hB1.mono (by simp)))
  clear hB1
  go_wp2
  go_ret
  exact ⟨rfl, HB.out⟩

set_option maxHeartbeats 1000000 in
set_option maxRecDepth 100000 in
/-- against: the error of a splice of so many lines. -/
theorem against_is (L : Nat) (a d : Int) (A : Option Addr) (n c : Nat) (ins : List ByteArray) (w : World) (k : Int) (hk : stpE L a d ins = k) (hL : L ≤ 2000) (ha1 : -9223372036854775808 ≤ a) (ha2 : a ≤ 9223372036854775807) (hd1 : -9223372036854775808 ≤ d) (hd2 : d ≤ 9223372036854775807)
    (hn : n = ins.length) (hb : n ≤ 100000) (h : SRd w w.heap.size A ins) :
    Calls Try.prog 59 #[.int .i64 L, .agg #[.int .i64 a, .int .i64 d, .slice A n c]] w fun e w' => e = .returned (.int .i64 k) ∧ Below w.heap.size w w' := by
  obtain ⟨q, hq⟩ : ∃ q, chkS a d ins = q := ⟨_, rfl⟩
  have hB0 : Below w.heap.size w (w.alloc (.cells #[.int .i64 a, .int .i64 d, .slice A n c] 24)) := (Below.refl _ _).alloc (Nat.le_refl _) _
  have C := Lib.hid (check_is a d A n c ins (w.alloc (.cells #[.int .i64 a, .int .i64 d, .slice A n c] 24)) q hq ha1 ha2 hd1 hd2 hn hb ((h.below hB0).more (by simp)))
  have HB0 := Lib.hid hB0
  have HA := Lib.hid (At.new w 24 #[.int .i64 a, .int .i64 d, .slice A n c])
  have HN := Lib.hid hn
  have HK := Lib.hid hk
  have HQ := Lib.hid hq
  unfold stpE at hk
  rw [hq, ← hn] at hk
  clear hn h hq hB0
  by_cases hq0 : q = 0
  · subst hq0
    rw [if_neg (by simp)] at hk
    obtain ⟨g1, g2, _⟩ := chkS_zero.1 HQ.out
    by_cases h3 : (L : Int) - a < d
    · obtain rfl : k = 2 := by rw [if_pos h3] at hk; exact hk.symm
      clear hk
      go_enter Try.func59, Try.ntmps59
      go_wp2_with fail
      go_at_call 67
      refine C.out.mono ?_
      rintro e w1 ⟨rfl, hB1⟩
      have HB := Lib.hid (HB0.out.trans (hB1.mono (by simp)))
      obtain ⟨c0, c1, c2⟩ := three_at (HA.out.same (hB1.block _ (by simp)))
      clear hB1 HA HB0 C
      go_wp2
      go_ret
      exact ⟨rfl, HB.out⟩
    rw [if_neg h3] at hk
    have hd3 : d ≤ 2000 := by omega
    by_cases h5 : 2000 < (L : Int) - d + n
    all_goals
      first | rw [if_pos h5] at hk | rw [if_neg h5] at hk
      subst hk
      go_enter Try.func59, Try.ntmps59
      go_wp2_with fail
      go_at_call 67
      refine C.out.mono ?_
      rintro e w1 ⟨rfl, hB1⟩
      have HB := Lib.hid (HB0.out.trans (hB1.mono (by simp)))
      obtain ⟨c0, c1, c2⟩ := three_at (HA.out.same (hB1.block _ (by simp)))
      clear hB1 HA HB0 C
      go_wp2
      go_ret
      exact ⟨rfl, HB.out⟩
  · obtain rfl : k = q := by rw [if_pos hq0] at hk; exact hk.symm
    have hqb : (k == 0) = false := by simpa using hq0
    have hqn : (k != 0) = true := by rw [bne, hqb]; rfl
    clear hk
    go_enter Try.func59, Try.ntmps59
    go_wp2_with fail
    go_at_call 67
    refine C.out.mono ?_
    rintro e w1 ⟨rfl, hB1⟩
    have HB := Lib.hid (HB0.out.trans (hB1.mono (by simp)))
    clear hB1 HA HB0 C
    go_wp2
    go_ret
    exact ⟨rfl, HB.out⟩

end Go.Proofs.Ytdbeedhedjhamaa.sps
