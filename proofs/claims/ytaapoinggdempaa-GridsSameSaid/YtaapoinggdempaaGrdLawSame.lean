/- GridsSame, walked. -/
import Derived.Test.YtaapoinggdempaaGrdDoes
import Derived.Test.YtaapoinggdempaaGrdRefText
namespace Go.Proofs.Ytaapoinggdempaa.grd
open Go.RowKit Go.Lib
set_option linter.unusedVariables false
set_option linter.unusedSimpArgs false
set_option linter.unnecessarySimpa false
set_option linter.unusedSectionVars false

set_option maxHeartbeats 8000000 in
set_option maxRecDepth 100000 in
theorem law5L (R1 C1 r1 k1 R2 C2 r2 k2 : Int) (A1 A2 : Option Addr) (n1 c1 n2 c2 : Nat) (xs ys : List (List UInt8)) (w : World) (h1 : Gr w 0 w.heap.size A1 n1 c1 xs) (h2 : Gr w 0 w.heap.size A2 n2 c2 ys) :
    Calls Try.prog 5 #[.agg #[.int .i64 R1, .int .i64 C1, .slice A1 n1 c1, .int .i64 r1, .int .i64 k1], .agg #[.int .i64 R2, .int .i64 C2, .slice A2 n2 c2, .int .i64 r2, .int .i64 k2]] w fun e w' => e = .returned (.bool true) ∧ Below w.heap.size w w' := by
  have H1 := Lib.hid h1
  have H2 := Lib.hid h2
  clear h1 h2
  go_enter Try.func5, Try.ntmps5
  go_wp2_with fail
  go_at_call 13
  have HB0 := Lib.hid (below2 w #[.int .i64 R1, .int .i64 C1, .slice A1 n1 c1, .int .i64 r1, .int .i64 k1] #[.int .i64 R2, .int .i64 C2, .slice A2 n2 c2, .int .i64 r2, .int .i64 k2] 24 24)
  refine (much_is R1 C1 r1 k1 A1 n1 c1 xs _ ((H1.out.below HB0.out (Nat.le_refl _)).mono (Nat.le_refl _) HB0.out.size)).mono ?_
  rintro e w1 ⟨o1, rfl, F1, hB1⟩
  obtain ⟨e1, e2, e3, e4⟩ := fresh hB1
  have E1 := Lib.hid e1
  have E2 := Lib.hid e2
  have E3 := Lib.hid e3
  have FF1 := Lib.hid F1
  clear e1 e2 e3 hB1 F1
  cases o1
  · have FX := Lib.hid (FF1.out rfl)
    clear FF1
    obtain ⟨a0, a1, a2, a3, a4⟩ := E1.out.five
    obtain ⟨b0, b1, b2, b3, b4⟩ := E2.out.five
    go_wp2_with fail
    go_at_call 13
    refine (much_is R2 C2 r2 k2 A2 n2 c2 ys _ ((H2.out.below E3.out (Nat.le_refl _)).mono (Nat.le_refl _) E3.out.size)).mono ?_
    rintro e wb ⟨o2, rfl, F2, hB2⟩
    have FF2 := Lib.hid F2
    have E4 := Lib.hid (E1.out.keep hB2 E1.out.lt)
    have E5 := Lib.hid (E2.out.keep hB2 E2.out.lt)
    have E6 : Hid (Below w.heap.size w wb) := Lib.hid (E3.out.trans (hB2.mono E3.out.size))
    clear a0 a1 a2 a3 a4 b0 b1 b2 b3 b4 F2 hB2 e4
    cases o2
    · have fx : few xs := FX.out
      have GX : Hid (Gr wb 0 wb.heap.size A1 n1 c1 xs) := Lib.hid ((H1.out.below E6.out (Nat.le_refl _)).mono (Nat.le_refl _) E6.out.size)
      have GY : Hid (Gr wb 0 wb.heap.size A2 n2 c2 ys) := Lib.hid ((H2.out.below E6.out (Nat.le_refl _)).mono (Nat.le_refl _) E6.out.size)
      obtain ⟨o, ho⟩ : ∃ o, sameB R1 C1 r1 k1 R2 C2 r2 k2 xs ys = o := ⟨_, rfl⟩
      have S1 : Hid (∀ W, More wb.heap.size wb W → Calls Try.prog 23 #[.agg #[.int .i64 R1, .int .i64 C1, .slice A1 n1 c1, .int .i64 r1, .int .i64 k1], .agg #[.int .i64 R2, .int .i64 C2, .slice A2 n2 c2, .int .i64 r2, .int .i64 k2]] W fun e w' => e = .returned (.bool o) ∧ Below W.heap.size W w') := Lib.hid fun W h => same_is _ _ _ _ _ _ _ _ _ _ _ _ _ _ _ _ o ho W (gr_more GX.out h) (gr_more GY.out h)
      have S2 : Hid (∀ W, More wb.heap.size wb W → Calls Try.prog 24 #[.agg #[.int .i64 R1, .int .i64 C1, .slice A1 n1 c1, .int .i64 r1, .int .i64 k1], .agg #[.int .i64 R2, .int .i64 C2, .slice A2 n2 c2, .int .i64 r2, .int .i64 k2]] W fun e w' => e = .returned (.bool o) ∧ Below W.heap.size W w') := Lib.hid fun W h => refSame_is _ _ _ _ _ _ _ _ _ _ _ _ _ _ _ _ o ho W (gr_more GX.out h) (gr_more GY.out h)
      have S3 : Hid (∀ W, More wb.heap.size wb W → Calls Try.prog 23 #[.agg #[.int .i64 R2, .int .i64 C2, .slice A2 n2 c2, .int .i64 r2, .int .i64 k2], .agg #[.int .i64 R1, .int .i64 C1, .slice A1 n1 c1, .int .i64 r1, .int .i64 k1]] W fun e w' => e = .returned (.bool o) ∧ Below W.heap.size W w') := Lib.hid fun W h => same_is _ _ _ _ _ _ _ _ _ _ _ _ _ _ _ _ o ((sameB_symm _ _ _ _ _ _ _ _ _ _).trans ho) W (gr_more GY.out h) (gr_more GX.out h)
      have RC : Hid (∀ W, More wb.heap.size wb W → Calls Try.prog 14 #[.agg #[.int .i64 R1, .int .i64 C1, .slice A1 n1 c1, .int .i64 r1, .int .i64 k1]] W fun e w' => ∃ A' c', e = .returned (.agg #[.int .i64 R1, .int .i64 C1, .slice A' n1 c', .int .i64 r1, .int .i64 k1]) ∧ Gr w' 0 w'.heap.size A' n1 c' xs ∧ Below W.heap.size W w') := Lib.hid fun W h => by
        refine (refClone_is R1 C1 r1 k1 A1 n1 c1 xs W fx (gr_more GX.out h)).mono ?_
        rintro e w' ⟨A', c', rfl, hO, hB⟩
        exact ⟨A', c', rfl, (hO.rows fx).mono (Nat.zero_le _) (Nat.le_refl _), hB⟩
      have S4 : Hid (∀ W A' c', More wb.heap.size wb W → Gr W 0 W.heap.size A' n1 c' xs → Calls Try.prog 23 #[.agg #[.int .i64 R1, .int .i64 C1, .slice A1 n1 c1, .int .i64 r1, .int .i64 k1], .agg #[.int .i64 R1, .int .i64 C1, .slice A' n1 c', .int .i64 r1, .int .i64 k1]] W fun e w' => e = .returned (.bool true) ∧ Below W.heap.size W w') := Lib.hid fun W A' c' h hG => same_is _ _ _ _ _ _ _ _ _ _ _ _ _ _ _ _ true (sameB_self _ _ _ _ _ _ rfl) W (gr_more GX.out h) hG
      have SK : Hid (∀ W, More wb.heap.size wb W → (W.cell? ⟨w.heap.size, 0, none⟩ = some (.int .i64 R1) ∧ W.cell? ⟨w.heap.size, 1, none⟩ = some (.int .i64 C1) ∧ W.cell? ⟨w.heap.size, 2, none⟩ = some (.slice A1 n1 c1) ∧ W.cell? ⟨w.heap.size, 3, none⟩ = some (.int .i64 r1) ∧ W.cell? ⟨w.heap.size, 4, none⟩ = some (.int .i64 k1)) ∧ (W.cell? ⟨w.heap.size + 1, 0, none⟩ = some (.int .i64 R2) ∧ W.cell? ⟨w.heap.size + 1, 1, none⟩ = some (.int .i64 C2) ∧ W.cell? ⟨w.heap.size + 1, 2, none⟩ = some (.slice A2 n2 c2) ∧ W.cell? ⟨w.heap.size + 1, 3, none⟩ = some (.int .i64 r2) ∧ W.cell? ⟨w.heap.size + 1, 4, none⟩ = some (.int .i64 k2)) ∧ More wb.heap.size wb W) := Lib.hid fun W h =>
        ⟨(E4.out.keep h E4.out.lt).five, (E5.out.keep h E5.out.lt).five, h⟩
      have M0 : More wb.heap.size wb wb := Below.refl _ _
      have S0 := SK.out wb M0
      have S0' := SK.out wb.drew (more_drew M0)
      clear GX GY fx ho FX FF2 E1 E2 E3 E4 E5
      cases o
      all_goals
        go_wp2_with fail
        go_region_held3 (fun W => (W.cell? ⟨w.heap.size, 0, none⟩ = some (.int .i64 R1) ∧ W.cell? ⟨w.heap.size, 1, none⟩ = some (.int .i64 C1) ∧ W.cell? ⟨w.heap.size, 2, none⟩ = some (.slice A1 n1 c1) ∧ W.cell? ⟨w.heap.size, 3, none⟩ = some (.int .i64 r1) ∧ W.cell? ⟨w.heap.size, 4, none⟩ = some (.int .i64 k1)) ∧ (W.cell? ⟨w.heap.size + 1, 0, none⟩ = some (.int .i64 R2) ∧ W.cell? ⟨w.heap.size + 1, 1, none⟩ = some (.int .i64 C2) ∧ W.cell? ⟨w.heap.size + 1, 2, none⟩ = some (.slice A2 n2 c2) ∧ W.cell? ⟨w.heap.size + 1, 3, none⟩ = some (.int .i64 r2) ∧ W.cell? ⟨w.heap.size + 1, 4, none⟩ = some (.int .i64 k2)) ∧ More wb.heap.size wb W)
          (first | assumption | exact SK.out _ (by assumption))
          (first
            | (go_at_call 23; (with_reducible refine (S1.out _ (and_more (by assumption))).mono ?_); rintro e w' ⟨rfl, hBt⟩; have hM := more_trans (and_more (by assumption)) hBt)
            | (go_at_call 24; (with_reducible refine (S2.out _ (and_more (by assumption))).mono ?_); rintro e w' ⟨rfl, hBt⟩; have hM := more_trans (and_more (by assumption)) hBt)
            | (go_at_call 23; (with_reducible refine (S3.out _ (and_more (by assumption))).mono ?_); rintro e w' ⟨rfl, hBt⟩; have hM := more_trans (and_more (by assumption)) hBt)
            | (go_at_call 14; (with_reducible refine (RC.out _ (and_more (by assumption))).mono ?_); rintro e w' ⟨A', c', rfl, hGc, hBt⟩; have hM := more_trans (and_more (by assumption)) hBt)
            | (go_at_call 23; (with_reducible refine (S4.out _ _ _ (and_more (by assumption)) hGc).mono ?_); rintro e w' ⟨rfl, hBt⟩; have hM := more_trans (and_more (by assumption)) hBt)
            | (go_at_call 12; (with_reducible refine (does_is _).mono ?_); rintro e w' ⟨rfl, hBt⟩; have hM := more_trans (and_more (by assumption)) hBt)
            | fail "NONE")
        all_goals
          have hfin := and_more (by assumption)
          go_wp2
          go_ret
          exact ⟨rfl, E6.out.trans (Below.mono hfin E6.out.size)⟩
    · go_wp2
      go_ret
      exact ⟨rfl, E6.out⟩
  · go_wp2
    go_ret
    exact ⟨rfl, E3.out⟩
end Go.Proofs.Ytaapoinggdempaa.grd
