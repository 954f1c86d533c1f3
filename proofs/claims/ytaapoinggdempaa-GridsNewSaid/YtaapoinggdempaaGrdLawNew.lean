/- GridsNew, walked. -/
import Derived.Test.YtaapoinggdempaaGrdDoes
import Derived.Test.YtaapoinggdempaaGrdRefNew
namespace Go.Proofs.Ytaapoinggdempaa.grd
open Go.RowKit Go.Lib
set_option linter.unusedVariables false
set_option linter.unusedSimpArgs false
set_option linter.unnecessarySimpa false
set_option linter.unusedSectionVars false

set_option maxHeartbeats 4000000 in
set_option maxRecDepth 100000 in
/-- The walk, whatever both calls tell, if they tell the same. -/
theorem law3_any (r c : Int) (R C : Int) (n : Nat) (k : Int) (ls : List (List UInt8)) (hf : few ls) (h6 : ls.length ≤ 60) (w : World)
    (H1 : ∀ W, Calls Try.prog 9 #[.int .i64 r, .int .i64 c] W fun e w' => ∃ A d, e = .returned (.tuple #[.agg #[.int .i64 R, .int .i64 C, .slice A n d, .int .i64 0, .int .i64 0], .int .i64 k]) ∧ Gr w' 0 w'.heap.size A n d ls ∧ Below W.heap.size W w')
    (H2 : ∀ W, Calls Try.prog 10 #[.int .i64 r, .int .i64 c] W fun e w' => ∃ A d, e = .returned (.tuple #[.agg #[.int .i64 R, .int .i64 C, .slice A n d, .int .i64 0, .int .i64 0], .int .i64 k]) ∧ Gr w' 0 w'.heap.size A n d ls ∧ Below W.heap.size W w') :
    Calls Try.prog 3 #[.int .i64 r, .int .i64 c] w fun e w' => e = .returned (.bool true) ∧ Below w.heap.size w w' := by
  have C1 := Lib.hid H1
  have C2 := Lib.hid H2
  clear H1 H2
  go_enter Try.func3, Try.ntmps3
  go_wp2_with fail
  go_at_call 9
  refine (C1.out _).mono ?_
  rintro e w1 ⟨A1, d1, rfl, hG, hB1⟩
  have HG := Lib.hid hG
  have HB1 := Lib.hid hB1
  have HZ1 := Lib.hid (newZ w1)
  clear hG hB1
  go_wp2_with (refine wpList_storeG rfl (.tmp 5) (.tmp 13) rfl w1.heap.size R C 0 0 A1 n d1 rfl rfl _ HZ1.out rfl ?_; intro W1 hA1 hBut1)
  go_at_call 10
  refine (C2.out _).mono ?_
  rintro e w2 ⟨A2, d2, rfl, hG2, hB2⟩
  have L1 := Lib.hid (laid hBut1)
  have HA1 := Lib.hid hA1
  have HG2 := Lib.hid hG2
  have HB2 := Lib.hid hB2
  have HZ2 := Lib.hid (newZ w2)
  have HAA := Lib.hid (hA1.keep hB2 hA1.lt)
  clear hA1 hBut1 hB2 hG2
  go_wp2_with (refine wpList_storeG rfl (.tmp 7) (.tmp 19) rfl w2.heap.size R C 0 0 A2 n d2 rfl rfl _ HZ2.out rfl ?_; intro W2 hA2 hBut2; have HL2 := Lib.hid (laid hBut2); have HA2 := Lib.hid hA2; clear hBut2 hA2; obtain ⟨a0, a1, a2, a3, a4⟩ := (HAA.out.keep HL2.out.1 HAA.out.lt).five; obtain ⟨b0, b1, b2, b3, b4⟩ := HA2.out.five)
  go_at_call 11
  have z1 := HB1.out.size
  have z2 := L1.out.1.size
  have z3 := HB2.out.size
  have z4 := HL2.out.1.size
  have G1 : Hid (Gr W2 0 W2.heap.size A1 n d1 ls) := Lib.hid ((((HG.out.below L1.out.1 (Nat.le_refl _)).below HB2.out (by omega)).below HL2.out.1 (by omega)).mono (Nat.le_refl _) (by omega))
  have G2 : Hid (Gr W2 0 W2.heap.size A2 n d2 ls) := Lib.hid ((HG2.out.below HL2.out.1 (by omega)).mono (Nat.le_refl _) (by omega))
  have BB : Hid (Below w.heap.size w W2) := Lib.hid (HB1.out.trans ((L1.out.1.mono (by omega)).trans ((HB2.out.mono (by omega)).trans (HL2.out.1.mono (by omega)))))
  refine (lawSame_is R C 0 0 R C 0 0 A1 A2 n n d1 d2 ls ls true (sameB_self _ _ _ _ _ _ rfl) _ G1.out G2.out).mono ?_
  rintro e w5 ⟨rfl, hB5⟩
  have HB5 := Lib.hid hB5
  clear a0 a1 a2 a3 a4 b0 b1 b2 b3 b4 hB5 z1 z2 z3 z4
  go_wp2_with fail
  go_at_call 12
  refine (does_is _).mono ?_
  rintro e w6 ⟨rfl, hB6⟩
  have z5 := BB.out.size
  have z6 := HB5.out.size
  have BF : Hid (Below w.heap.size w w6) := Lib.hid (BB.out.trans ((HB5.out.mono (by omega)).trans (hB6.mono (by omega))))
  clear hB6 z5 z6
  go_wp2
  go_ret
  exact ⟨rfl, BF.out⟩
theorem law3L (r c : Int) (w : World) : Calls Try.prog 3 #[.int .i64 r, .int .i64 c] w fun e w' => e = .returned (.bool true) ∧ Below w.heap.size w w' := by
  cases h : sized r c with
  | false =>
    refine law3_any r c 0 0 0 2 [] ⟨by simp, fun l hl => by cases hl⟩ (by simp) w (fun W => ?_) (fun W => ?_)
    · refine (new_no r c h W).mono ?_
      rintro e w' ⟨rfl, hB⟩
      exact ⟨none, 0, rfl, Gr.zero, hB⟩
    · refine (refNew_no r c h W).mono ?_
      rintro e w' ⟨rfl, hB⟩
      exact ⟨none, 0, rfl, Gr.zero, hB⟩
  | true =>
    obtain ⟨h1, h2, h3, h4⟩ := sized_iff.1 h
    obtain ⟨n, rfl⟩ : ∃ n : Nat, r = n := ⟨r.toNat, by omega⟩
    obtain ⟨m, rfl⟩ : ∃ m : Nat, c = m := ⟨c.toNat, by omega⟩
    have hf := few_blank n m (by omega) (by omega)
    refine law3_any n m n m n 0 (blankC n m) hf (by simp [blankC]; omega) w (fun W => ?_) (fun W => ?_)
    · refine (new_yes n m (by omega) (by omega) (by omega) (by omega) W).mono ?_
      rintro e w' ⟨h, rfl, hG, hB⟩
      exact ⟨_, _, rfl, hG.mono (Nat.zero_le _) (Nat.le_refl _), hB⟩
    · refine (refNew_yes n m (by omega) (by omega) (by omega) (by omega) W).mono ?_
      rintro e w' ⟨A, d, rfl, hO, hB⟩
      exact ⟨_, _, rfl, (hO.rows hf).mono (Nat.zero_le _) (Nat.le_refl _), hB⟩
end Go.Proofs.Ytaapoinggdempaa.grd
