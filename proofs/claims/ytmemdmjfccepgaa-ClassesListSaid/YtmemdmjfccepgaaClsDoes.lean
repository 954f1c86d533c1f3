/- The laws' examples, and their letters. -/
import Derived.Test.YtmemdmjfccepgaaClsKit
namespace Go.Proofs.Ytmemdmjfccepgaa.cls
open Go.RowKit Go.Lib
set_option linter.unusedVariables false
set_option linter.unusedSimpArgs false
set_option linter.unnecessarySimpa false
set_option linter.unusedSectionVars false

/-- How many of the first k bytes are there. -/
def cnt (f : Nat → Bool) : Nat → Nat
  | 0 => 0
  | k + 1 => cnt f k + (if f k then 1 else 0)
theorem cnt_le (f : Nat → Bool) : ∀ k, cnt f k ≤ k
  | 0 => Nat.le_refl _
  | k + 1 => by have := cnt_le f k; unfold cnt; split <;> omega

set_option maxHeartbeats 1000000 in
set_option maxRecDepth 100000 in
theorem has_yes (w : World) (f : Nat → Bool) (l : List UInt8) (hl : l.length ≤ 256) (h1 : ∀ (i : Nat), i < l.length → f (l.getD i 0).toNat = true) (h2 : cnt f 256 = l.length) :
    Calls Try.prog 22 #[.agg (arr f), .string (B l)] w fun e w' => e = .returned (.bool true) ∧ Below w.heap.size w w' := by
  obtain ⟨m, hm⟩ : ∃ m, l.length = m := ⟨_, rfl⟩
  have hsz : (B l).size = m := by rw [B_size]; exact hm
  have H1 := Lib.hid h1
  have H2 := Lib.hid h2
  have HM := Lib.hid hm
  rw [hm] at hl
  clear h1 h2 hm
  go_enter Try.func22, Try.ntmps22
  go_wp2_with (refine wpList_boxA rfl _ rfl f rfl ?_; intro w1 hs1 ha1 hb1)
  have HB := Lib.hid (And.intro ha1 hb1)
  clear ha1 hb1 hs1
  go_loopg [5, 6] 256 (fun g s5 s6 wr => ∃ k c : Nat, s5 = .int .i64 c ∧ s6 = .int .i64 k ∧ k ≤ 256 ∧ c ≤ k ∧ 256 - k ≤ g ∧ Hid (c = cnt f k) ∧ wr = w1)
  case atStart => exact ⟨0, 0, rfl, rfl, Nat.zero_le _, Nat.le_refl _, by omega, Lib.hid rfl, rfl⟩
  case round =>
    obtain ⟨k, c, rfl, rfl, hk, hck, hg, HI, hwr⟩ := hrel
    have hwr := hwr.symm
    subst hwr
    by_cases hlt : k < 256
    · have hc := HB.out.1.cell hlt
      cases hfk : f k with
      | true =>
        rw [hfk] at hc
        have HF := Lib.hid hfk
        clear hfk
        go_wp2
        go_roundg (256 - (k + 1))
        case measure => omega
        case rel => exact ⟨k + 1, c + 1, by go_num, by go_num, by omega, by omega, by omega, Lib.hid (by unfold cnt; rw [HI.out, HF.out]; rfl), rfl⟩
      | false =>
        rw [hfk] at hc
        have HF := Lib.hid hfk
        clear hfk
        go_wp2
        go_roundg (256 - (k + 1))
        case measure => omega
        case rel => exact ⟨k + 1, c, rfl, by go_num, by omega, by omega, by omega, Lib.hid (by unfold cnt; rw [HI.out, HF.out]; rfl), rfl⟩
    · obtain rfl : k = 256 := by omega
      obtain rfl : c = m := by rw [HI.out, H2.out, HM.out]
      go_wp2
      go_loopg [7] c (fun g s7 wr => ∃ k : Nat, s7 = .int .i64 k ∧ k ≤ c ∧ c - k ≤ g ∧ wr = w1)
      case atStart => exact ⟨0, rfl, Nat.zero_le _, by omega, rfl⟩
      case round =>
        obtain ⟨k, rfl, hk, hg, hwr⟩ := hrel
        have hwr := hwr.symm
        subst hwr
        by_cases hlt : k < c
        · have i0 := index_at l k k rfl (by rw [HM.out]; exact hlt)
          have hyes := H1.out k (by rw [HM.out]; exact hlt)
          obtain ⟨x, hx⟩ : ∃ x, (l.getD k 0).toNat = x := ⟨_, rfl⟩
          have hx6 : x < 256 := by rw [← hx]; exact (l.getD k 0).toNat_lt
          rw [hx] at i0 hyes
          have hc := HB.out.1.cell hx6
          rw [hyes] at hc
          clear hx hyes
          go_wp2
          go_roundg (c - (k + 1))
          case measure => omega
          case rel => exact ⟨k + 1, by go_num, by omega, by omega, rfl⟩
        · obtain rfl : k = c := by omega
          go_wp2
          go_ret
          exact ⟨rfl, HB.out.2⟩

/-- A letter or a digit. -/
def letN (n : Nat) : Nat := if n % 62 < 10 then 48 + n % 62 else if n % 62 < 36 then 55 + n % 62 else 61 + n % 62
theorem letN_lt (n : Nat) : letN n < 256 := by unfold letN; split; omega; split <;> omega
set_option maxHeartbeats 1000000 in
set_option maxRecDepth 100000 in
theorem letter_is (w : World) (n : Nat) (hn : n < 256) :
    Calls Try.prog 15 #[.int .u8 (n : Int)] w fun e w' => e = .returned (.int .u8 (letN n : Nat)) ∧ w' = w := by
  obtain ⟨R, hR⟩ : ∃ R, letN n = R := ⟨_, rfl⟩
  rw [hR]
  have H := Lib.hid hR
  clear hR
  by_cases h1 : n % 62 < 10
  · go_enter Try.func15, Try.ntmps15
    go_wp2
    go_ret
    refine ⟨ret_int ?_, rfl⟩
    rw [← H.out]
    unfold letN
    rw [if_pos h1]
    omega
  · by_cases h2 : n % 62 < 36
    · go_enter Try.func15, Try.ntmps15
      go_wp2
      go_ret
      refine ⟨ret_int ?_, rfl⟩
      rw [← H.out]
      unfold letN
      rw [if_neg h1, if_pos h2]
      omega
    · go_enter Try.func15, Try.ntmps15
      go_wp2
      go_ret
      refine ⟨ret_int ?_, rfl⟩
      rw [← H.out]
      unfold letN
      rw [if_neg h1, if_neg h2]
      omega
end Go.Proofs.Ytmemdmjfccepgaa.cls
