/- The document's answer: what a part begins with. -/
import Derived.Test.YtmemdmjfccepgaaClsRefC
import Derived.BigQuiet
import Derived.Deep.QuietTactic
namespace Go.Proofs.Ytmemdmjfccepgaa.cls
open Go.RowKit Go.Lib
set_option linter.unusedVariables false
set_option linter.unusedSimpArgs false
set_option linter.unnecessarySimpa false
set_option linter.unusedSectionVars false

theorem opens_short (l : List UInt8) (k : Nat) (h : l.length ≤ k + 1) : opens (l.drop k) = false := by
  have hlen : (l.drop k).length ≤ 1 := by rw [List.length_drop]; omega
  unfold opens hp2
  match hl : l.drop k, hlen with
  | [], _ => simp
  | [a], _ => simp
theorem opens_long (l : List UInt8) (k : Nat) (h : k + 1 < l.length) (x y : Nat) (hx : (l.getD k 0).toNat = x) (hy : (l.getD (k + 1) 0).toNat = y) : opens (l.drop k) = (decide (x = 91) && (decide (y = 58) || decide (y = 46) || decide (y = 61))) := by
  have h1 : l.drop k = l[k] :: l[k + 1] :: l.drop (k + 2) := by
    rw [List.drop_eq_getElem_cons (by omega), List.drop_eq_getElem_cons (by omega)]
  have e1 : l.getD k 0 = l[k] := by simp [List.getD, List.getElem?_eq_getElem (show k < l.length by omega)]
  have e2 : l.getD (k + 1) 0 = l[k + 1] := by simp [List.getD, List.getElem?_eq_getElem h]
  rw [h1]
  rw [e1] at hx
  rw [e2] at hy
  have t : ∀ (a : UInt8) (n : UInt8), (a = n) = (a.toNat = n.toNat) := fun a n => propext UInt8.toNat_inj.symm
  unfold opens hp2
  rw [Bool.eq_iff_iff]
  simp only [List.head?_cons, List.drop_succ_cons, List.drop_zero, Option.some.injEq, Bool.or_eq_true, Bool.and_eq_true, decide_eq_true_eq, t, hx, hy]
  show (((x = 91 ∧ y = 58) ∨ (x = 91 ∧ y = 46)) ∨ (x = 91 ∧ y = 61)) ↔ _
  omega

set_option maxHeartbeats 2000000 in
set_option maxRecDepth 100000 in
theorem special_is (l : List UInt8) (k : Nat) (w : World) (hl : l.length ≤ 1000000000) (hk : k ≤ l.length + 10) :
    Calls Try.prog 28 #[.string (B l), .int .i64 (k : Int)] w fun e w' => e = .returned (.bool (opens (l.drop k))) ∧ w' = w := by
  obtain ⟨m, hm⟩ : ∃ m, l.length = m := ⟨_, rfl⟩
  have hsz : (B l).size = m := by rw [B_size]; exact hm
  by_cases hs : m ≤ k + 1
  · rw [opens_short l k (by omega)]
    rw [hm] at hl hk
    clear hm
    go_enter Try.func28, Try.ntmps28
    go_wp2
    go_ret
    exact ⟨rfl, rfl⟩
  · obtain ⟨x, hx⟩ : ∃ x, (l.getD k 0).toNat = x := ⟨_, rfl⟩
    obtain ⟨y, hy⟩ : ∃ y, (l.getD (k + 1) 0).toNat = y := ⟨_, rfl⟩
    have x6 : x < 256 := by rw [← hx]; exact (l.getD k 0).toNat_lt
    have y6 : y < 256 := by rw [← hy]; exact (l.getD (k + 1) 0).toNat_lt
    have i0 := index_at l k k rfl (by omega)
    have i1 := index_at l (k + 1) ((k : Int) + 1) (by omega) (by omega)
    rw [opens_long l k (by omega) x y hx hy]
    rw [hx] at i0
    rw [hy] at i1
    rw [hm] at hl hk
    obtain ⟨R, hR⟩ : ∃ R, (decide (x = 91) && (decide (y = 58) || decide (y = 46) || decide (y = 61))) = R := ⟨_, rfl⟩
    rw [hR]
    have HR := Lib.hid hR
    clear hm hx hy hR
    by_cases h91 : x = 91
    · subst h91
      by_cases h58 : y = 58
      · subst h58
        go_enter Try.func28, Try.ntmps28
        go_wp2
        go_ret
        exact ⟨by rw [← HR.out]; rfl, rfl⟩
      · have t58 : ((y : Int) == 58) = false := by simpa using (by omega : ¬ (y : Int) = 58)
        by_cases h46 : y = 46
        · subst h46
          go_enter Try.func28, Try.ntmps28
          go_wp2
          go_ret
          exact ⟨by rw [← HR.out]; rfl, rfl⟩
        · have t46 : ((y : Int) == 46) = false := by simpa using (by omega : ¬ (y : Int) = 46)
          go_enter Try.func28, Try.ntmps28
          go_wp2
          go_ret
          refine ⟨ret_bool ?_, rfl⟩
          have e9 : R = decide (y = 61) := by rw [← HR.out]; simp [h58, h46]
          rw [e9]
          show ((y : Int) == 61) = decide (y = 61)
          rw [Bool.eq_iff_iff, beq_iff_eq, decide_eq_true_eq]
          omega
    · have t91 : ((x : Int) == 91) = false := by simpa using (by omega : ¬ (x : Int) = 91)
      go_enter Try.func28, Try.ntmps28
      go_wp2
      go_ret
      refine ⟨ret_bool ?_, rfl⟩
      rw [← HR.out]
      simp [h91]
end Go.Proofs.Ytmemdmjfccepgaa.cls
