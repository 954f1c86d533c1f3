/- Classes: what a part begins with. -/
import Derived.Test.YtmemdmjfccepgaaClsArr
import Derived.Test.YtmemdmjfccepgaaShelf
import Derived.Lib.Strings
namespace Go.Proofs.Ytmemdmjfccepgaa.cls
open Go.RowKit Go.Lib
set_option linter.unusedVariables false
set_option linter.unusedSimpArgs false
set_option linter.unnecessarySimpa false
set_option linter.unusedSectionVars false

theorem eq_bool (a b : UInt8) : (a == b) = decide (b = a) := by
  rw [Bool.eq_iff_iff, beq_iff_eq, decide_eq_true_eq]
  exact eq_comm
theorem hp2_is (l : List UInt8) (d : UInt8) : Lib.hasPrefix l [91, d] = hp2 l d := by
  unfold Lib.hasPrefix hp2
  match l with
  | [] => simp [List.isPrefixOf]
  | [a] => simp [List.isPrefixOf]
  | a :: b :: r => simp [List.isPrefixOf, eq_bool]
theorem hp1_is (l : List UInt8) (d : UInt8) : Lib.hasPrefix l [d] = decide (l.head? = some d) := by
  unfold Lib.hasPrefix
  match l with
  | [] => simp [List.isPrefixOf]
  | a :: r => simp [List.isPrefixOf, eq_bool]
theorem has2_is (l : List UInt8) (d : UInt8) (b : Bool) (h : hp2 l d = b) (w : World) : Calls Try.prog 26 #[.string (B l), .string ⟨#[91, d]⟩] w fun e w' => e = .returned (.bool b) ∧ w' = w := by
  have := Try.strings_HasPrefix (B l) ⟨#[91, d]⟩ w
  rw [list_B, show (⟨#[91, d]⟩ : ByteArray).data.toList = [91, d] from rfl, hp2_is, h] at this
  exact this
theorem has1_is (l : List UInt8) (d : UInt8) (b : Bool) (h : decide (l.head? = some d) = b) (w : World) : Calls Try.prog 26 #[.string (B l), .string ⟨#[d]⟩] w fun e w' => e = .returned (.bool b) ∧ w' = w := by
  have := Try.strings_HasPrefix (B l) ⟨#[d]⟩ w
  rw [list_B, show (⟨#[d]⟩ : ByteArray).data.toList = [d] from rfl, hp1_is, h] at this
  exact this

set_option maxHeartbeats 1000000 in
set_option maxRecDepth 100000 in
theorem opensName_is (l : List UInt8) (w : World) : Calls Try.prog 34 #[.string (B l)] w fun e w' => e = .returned (.bool (opens l)) ∧ w' = w := by
  unfold opens
  cases h1 : hp2 l 58 with
  | true =>
    have C1 := Lib.hid (has2_is l 58 true h1 w)
    clear h1
    simp only [Bool.true_or]
    go_enter Try.func34, Try.ntmps34
    go_wp2_with (go_at_call 26; refine C1.out.mono ?_; rintro e w' ⟨rfl, rfl⟩; clear C1)
    go_ret
    exact ⟨rfl, rfl⟩
  | false =>
    have C1 := Lib.hid (has2_is l 58 false h1 w)
    clear h1
    cases h2 : hp2 l 46 with
    | true =>
      have C2 := Lib.hid (has2_is l 46 true h2 w)
      clear h2
      simp only [Bool.true_or, Bool.false_or]
      go_enter Try.func34, Try.ntmps34
      go_wp2_with fail
      go_at_call 26
      refine C1.out.mono ?_
      rintro e w' ⟨rfl, rfl⟩
      go_wp2_with fail
      go_at_call 26
      refine C2.out.mono ?_
      rintro e w' ⟨rfl, rfl⟩
      go_wp2
      go_ret
      exact ⟨rfl, rfl⟩
    | false =>
      have C2 := Lib.hid (has2_is l 46 false h2 w)
      have C3 := Lib.hid (has2_is l 61 _ rfl w)
      clear h2
      simp only [Bool.false_or]
      go_enter Try.func34, Try.ntmps34
      go_wp2_with fail
      go_at_call 26
      refine C1.out.mono ?_
      rintro e w' ⟨rfl, rfl⟩
      go_wp2_with fail
      go_at_call 26
      refine C2.out.mono ?_
      rintro e w' ⟨rfl, rfl⟩
      go_wp2_with fail
      go_at_call 26
      refine C3.out.mono ?_
      rintro e w' ⟨rfl, rfl⟩
      go_wp2
      go_ret
      exact ⟨rfl, rfl⟩

set_option maxHeartbeats 1000000 in
set_option maxRecDepth 100000 in
theorem isRange_is (l : List UInt8) (w : World) (hl : l.length ≤ 1000000000) : Calls Try.prog 35 #[.string (B l)] w fun e w' => e = .returned (.bool (isRng l)) ∧ w' = w := by
  obtain ⟨R, hR⟩ : ∃ R, isRng l = R := ⟨_, rfl⟩
  rw [hR]
  have H := Lib.hid hR
  clear hR
  match l, H with
  | [], H =>
    go_enter Try.func35, Try.ntmps35
    go_wp2
    go_ret
    exact ⟨by rw [← H.out]; rfl, rfl⟩
  | [a], H =>
    go_enter Try.func35, Try.ntmps35
    go_wp2
    go_ret
    exact ⟨by rw [← H.out]; rfl, rfl⟩
  | [a, b], H =>
    go_enter Try.func35, Try.ntmps35
    go_wp2
    go_ret
    exact ⟨by rw [← H.out]; rfl, rfl⟩
  | a :: b :: c :: r, H =>
    obtain ⟨m, hm⟩ : ∃ m, r.length = m := ⟨_, rfl⟩
    have hsz : (B (a :: b :: c :: r)).size = m + 3 := by rw [B_size]; simp [hm]
    simp only [List.length_cons] at hl
    rw [hm] at hl
    have HM := Lib.hid hm
    clear hm
    have i1 : (B (a :: b :: c :: r))[1]? = some b := rfl
    have i2 : (B (a :: b :: c :: r))[2]? = some c := rfl
    go_enter Try.func35, Try.ntmps35
    go_wp2
    · go_ret
      rename_i h1 _ h2 _
      have h3 : ((b.toNat : Nat) : Int) = 45 := h2
      refine ⟨?_, rfl⟩
      rw [← H.out]
      have e : isRng (a :: b :: c :: r) = decide (c ≠ 93) := by
        have : b = 45 := UInt8.toNat_inj.1 (by have : b.toNat = 45 := by omega
                                               rw [this]; rfl)
        simp [isRng, this]
      rw [e]
      refine ret_bool ?_
      show (((c.toNat : Nat) : Int) != 93) = decide (c ≠ 93)
      rw [Bool.eq_iff_iff]
      simp only [bne_iff_ne, ne_eq, decide_eq_true_eq]
      rw [← UInt8.toNat_inj]
      show ¬ ((c.toNat : Nat) : Int) = 93 ↔ ¬ c.toNat = 93
      omega
    · go_ret
      rename_i h2
      have h3 : ¬ ((b.toNat : Nat) : Int) = 45 := h2
      refine ⟨?_, rfl⟩
      rw [← H.out]
      have e : isRng (a :: b :: c :: r) = false := by
        have : ¬ b = 45 := fun e => by subst e; exact h3 rfl
        simp [isRng, this]
      rw [e]
      rfl
end Go.Proofs.Ytmemdmjfccepgaa.cls
