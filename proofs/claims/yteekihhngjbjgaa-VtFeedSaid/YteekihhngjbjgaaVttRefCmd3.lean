/- Terminals: the document's commands: erasing. -/
import Derived.Test.YteekihhngjbjgaaVttRefCmdKit
namespace Go.Proofs.Yteekihhngjbjgaa.vtt
open Go.RowKit Go.Lib Go.Proofs.Yteekihhngjbjgaa.grd
set_option linter.unusedVariables false
set_option linter.unusedSimpArgs false
set_option linter.unnecessarySimpa false
set_option linter.unusedSectionVars false
set_option maxHeartbeats 4000000 in
set_option maxRecDepth 100000 in
theorem refcmd_J0 (lo rb N n m : Nat) (ls : List (List UInt8)) (r k esc a b1 : Nat) (A : Option Addr) (c : Nat) (q : List UInt8) (hax : a = 0) (w : World) (hq : q.length ≤ 1000000) (hd : digest q = ⟨a, b1, 0, false⟩) (H : Rv w lo rb N ⟨n, m, ls, r, k, esc, ⟨a, b1, 0, false⟩⟩ A c q) :
    Calls Try.prog 43 #[.pointer (some ⟨rb, 0, none⟩), .int .u8 74] w fun e w' => e = .returned (.tuple #[]) ∧ Rent lo rb N ⟨n, m, wipeIf (pJ r k) ls, r, k, esc, ⟨a, b1, 0, false⟩⟩ w w' := by
  have HH := Lib.hid H
  have a6 := H.seven.2.2.2.2.2.2
  have C := Lib.hid (numbers_one q w hq a b1 hd)
  have hz := H.ok.size
  have hcu := H.ok.cur
  dsimp only at hz hcu
  have hlw : Hid (lo ≤ w.heap.size) := Lib.hid (by have := H.le; have := H.blk.lt; omega)
  clear H
  go_enter Try.func43, Try.ntmps43
  go_wp2_with fail
  go_at_call 48
  refine C.out.mono ?_
  rintro e w1 ⟨hB, x, g, cc, cs, rfl, hx, ha, hg, hl0, rfl⟩
  have HV1 := Lib.hid (HH.out.below hB)
  have HB1 : Hid (Below lo w w1) := Lib.hid (hB.mono hlw.out)
  have HG := Lib.hid hg
  have l0 : w1.cell? ⟨g, 0, none⟩ = some (.int .i64 x) := (hg.cell 0).trans hl0
  obtain ⟨a0, a1, _, a3, a4, _⟩ := HV1.out.seven
  dsimp only at a0 a1 a3 a4
  unfold rng at hx
  obtain ⟨P, hP⟩ : ∃ P, P = r * m := ⟨_, rfl⟩
  have hP8 : P ≤ 8000 := by rw [hP]; exact Nat.le_trans (Nat.mul_le_mul (show r ≤ 60 by omega) hz.2.2.2) (by decide)
  obtain ⟨F, hF⟩ : ∃ F, F = P + k := ⟨_, rfl⟩
  have hwP : IntKind.i64.wrap ((r : Int) * (m : Int)) = (P : Int) := by
    have e : (r : Int) * (m : Int) = (P : Int) := by rw [hP]; exact (Int.natCast_mul r m).symm
    rw [e, IntKind.wrap_i64]; omega
  have hwF : IntKind.i64.wrap ((P : Int) + (k : Int)) = (F : Int) := by rw [IntKind.wrap_i64]; omega
  have HP := Lib.hid hP
  have HF := Lib.hid hF
  have HL0 := Lib.hid hl0
  obtain ⟨G, hG⟩ : ∃ G, G = n * m := ⟨_, rfl⟩
  have hG8 : G ≤ 16000 := by rw [hG]; have := pNine hz; omega
  have hwG : IntKind.i64.wrap ((n : Int) * (m : Int)) = (G : Int) := by
    have e : (n : Int) * (m : Int) = (G : Int) := by rw [hG]; exact (Int.natCast_mul n m).symm
    rw [e, IntKind.wrap_i64]; omega
  have HGG := Lib.hid hG
  obtain hx0 | hx0 : x = 0 ∨ x = -1 := by omega
  · subst hx0
    clear ha hx hG
    clear C a6 hB hg hl0 hP hF
    go_wp2_with fail
    go_quiet (fail)
    have HV2 := Lib.hid (HV1.out.same (w' := w1.drewN nq) rfl)
    have HB2 : Hid (Below lo w (w1.drewN nq)) := Lib.hid (below_drewN HB1.out nq)
    have HG2 := Lib.hid (At.same (w' := w1.drewN nq) HG.out rfl)
    clear a0 a1 a3 a4 l0 HV1 HB1 HG HH
    generalize w1.drewN nq = w2 at HV2 HB2 HG2 ⊢
    have l0 : w2.cell? ⟨g, 0, none⟩ = some (.int .i64 0) := (HG2.out.cell 0).trans HL0.out
    obtain ⟨a0, a1, _, a3, a4, _⟩ := HV2.out.seven
    dsimp only at a0 a1 a3 a4
    have f3 := HV2.out.frozen 3
    have f4 := HV2.out.frozen 4
    have C : Hid (∀ W, W.heap = w2.heap → Calls Try.prog 49 #[.pointer (some ⟨rb, 0, none⟩), .int .i64 F, .int .i64 G] W fun e w' => e = .returned (.tuple #[]) ∧ Rent lo rb N ⟨n, m, wipeIf (pJ r k) ls, r, k, esc, ⟨a, 0, 0, false⟩⟩ W w' ∧ K5 W w') := Lib.hid fun W hW => by
      have OK := HV2.out.ok
      have hlen := OK.len
      have hrow := fun l h => (OK.row l h).1
      dsimp only at hlen hrow
      have := blank_is lo rb N ⟨n, m, ls, r, k, esc, ⟨a, 0, 0, false⟩⟩ F G (by rw [HF.out, HGG.out, HP.out]; have := Nat.mul_le_mul_right m (show r + 1 ≤ n by omega); rw [Nat.add_mul, Nat.one_mul] at this; omega) (by rw [HGG.out]; exact Nat.le_refl _) W (HV2.out.same hW).rt
      dsimp only at this
      rw [show wipeIf (pS m F G) ls = wipeIf (pJ r k) ls by rw [HF.out, HGG.out, HP.out]; exact wipe_J hrow hlen (by omega)] at this
      exact this
    go_wp2_with fail
    go_still_tail 13, (by kernel_rfl)
    change wpList _ _ _ _ _ w2.drew
    go_wp2_with fail
    go_at_call 49
    refine (C.out w2.drew rfl).mono ?_
    rintro e w3 ⟨rfl, hR, hK⟩
    have FIN : Hid (Rent lo rb N ⟨n, m, wipeIf (pJ r k) ls, r, k, esc, ⟨a, 0, 0, false⟩⟩ w w3) := Lib.hid (Rent.trans HB2.out ⟨hR.1, hR.2.os, hR.2.tape, hR.2.output, hR.2.size, hR.2.block⟩)
    have l3 : w3.cell? ⟨g, 0, none⟩ = some (.int .i64 0) := ((hK g 3 cs (by decide) (HG2.out.same rfl)).cell 0).trans HL0.out
    clear hR hK C l0 a0 a1 a3 a4 f3 f4
    go_wp2
    go_end0
    exact ⟨rfl, FIN.out⟩
  · subst hx0
    clear ha hx hG
    clear C a6 hB hg hl0 hP hF
    go_wp2_with fail
    go_quiet (fail)
    have HV2 := Lib.hid (HV1.out.same (w' := w1.drewN nq) rfl)
    have HB2 : Hid (Below lo w (w1.drewN nq)) := Lib.hid (below_drewN HB1.out nq)
    have HG2 := Lib.hid (At.same (w' := w1.drewN nq) HG.out rfl)
    clear a0 a1 a3 a4 l0 HV1 HB1 HG HH
    generalize w1.drewN nq = w2 at HV2 HB2 HG2 ⊢
    have l0 : w2.cell? ⟨g, 0, none⟩ = some (.int .i64 (-1)) := (HG2.out.cell 0).trans HL0.out
    obtain ⟨a0, a1, _, a3, a4, _⟩ := HV2.out.seven
    dsimp only at a0 a1 a3 a4
    have f3 := HV2.out.frozen 3
    have f4 := HV2.out.frozen 4
    have C : Hid (∀ W, W.heap = w2.heap → Calls Try.prog 49 #[.pointer (some ⟨rb, 0, none⟩), .int .i64 F, .int .i64 G] W fun e w' => e = .returned (.tuple #[]) ∧ Rent lo rb N ⟨n, m, wipeIf (pJ r k) ls, r, k, esc, ⟨a, 0, 0, false⟩⟩ W w' ∧ K5 W w') := Lib.hid fun W hW => by
      have OK := HV2.out.ok
      have hlen := OK.len
      have hrow := fun l h => (OK.row l h).1
      dsimp only at hlen hrow
      have := blank_is lo rb N ⟨n, m, ls, r, k, esc, ⟨a, 0, 0, false⟩⟩ F G (by rw [HF.out, HGG.out, HP.out]; have := Nat.mul_le_mul_right m (show r + 1 ≤ n by omega); rw [Nat.add_mul, Nat.one_mul] at this; omega) (by rw [HGG.out]; exact Nat.le_refl _) W (HV2.out.same hW).rt
      dsimp only at this
      rw [show wipeIf (pS m F G) ls = wipeIf (pJ r k) ls by rw [HF.out, HGG.out, HP.out]; exact wipe_J hrow hlen (by omega)] at this
      exact this
    go_wp2_with fail
    go_still_tail 13, (by kernel_rfl)
    change wpList _ _ _ _ _ w2.drew
    go_wp2_with fail
    go_at_call 49
    refine (C.out w2.drew rfl).mono ?_
    rintro e w3 ⟨rfl, hR, hK⟩
    have FIN : Hid (Rent lo rb N ⟨n, m, wipeIf (pJ r k) ls, r, k, esc, ⟨a, 0, 0, false⟩⟩ w w3) := Lib.hid (Rent.trans HB2.out ⟨hR.1, hR.2.os, hR.2.tape, hR.2.output, hR.2.size, hR.2.block⟩)
    have l3 : w3.cell? ⟨g, 0, none⟩ = some (.int .i64 (-1)) := ((hK g 3 cs (by decide) (HG2.out.same rfl)).cell 0).trans HL0.out
    clear hR hK C l0 a0 a1 a3 a4 f3 f4
    go_wp2
    go_end0
    exact ⟨rfl, FIN.out⟩
set_option maxHeartbeats 4000000 in
set_option maxRecDepth 100000 in
theorem refcmd_J2 (lo rb N n m : Nat) (ls : List (List UInt8)) (r k esc a b1 : Nat) (A : Option Addr) (c : Nat) (q : List UInt8) (hax : a = 2) (w : World) (hq : q.length ≤ 1000000) (hd : digest q = ⟨a, b1, 0, false⟩) (H : Rv w lo rb N ⟨n, m, ls, r, k, esc, ⟨a, b1, 0, false⟩⟩ A c q) :
    Calls Try.prog 43 #[.pointer (some ⟨rb, 0, none⟩), .int .u8 74] w fun e w' => e = .returned (.tuple #[]) ∧ Rent lo rb N ⟨n, m, wipeIf pA ls, r, k, esc, ⟨a, b1, 0, false⟩⟩ w w' := by
  have HH := Lib.hid H
  have a6 := H.seven.2.2.2.2.2.2
  have C := Lib.hid (numbers_one q w hq a b1 hd)
  have hz := H.ok.size
  have hcu := H.ok.cur
  dsimp only at hz hcu
  have hlw : Hid (lo ≤ w.heap.size) := Lib.hid (by have := H.le; have := H.blk.lt; omega)
  clear H
  go_enter Try.func43, Try.ntmps43
  go_wp2_with fail
  go_at_call 48
  refine C.out.mono ?_
  rintro e w1 ⟨hB, x, g, cc, cs, rfl, hx, ha, hg, hl0, rfl⟩
  have HV1 := Lib.hid (HH.out.below hB)
  have HB1 : Hid (Below lo w w1) := Lib.hid (hB.mono hlw.out)
  have HG := Lib.hid hg
  have l0 : w1.cell? ⟨g, 0, none⟩ = some (.int .i64 x) := (hg.cell 0).trans hl0
  obtain ⟨a0, a1, _, a3, a4, _⟩ := HV1.out.seven
  dsimp only at a0 a1 a3 a4
  unfold rng at hx
  obtain ⟨P, hP⟩ : ∃ P, P = r * m := ⟨_, rfl⟩
  have hP8 : P ≤ 8000 := by rw [hP]; exact Nat.le_trans (Nat.mul_le_mul (show r ≤ 60 by omega) hz.2.2.2) (by decide)
  obtain ⟨F, hF⟩ : ∃ F, F = P + k := ⟨_, rfl⟩
  have hwP : IntKind.i64.wrap ((r : Int) * (m : Int)) = (P : Int) := by
    have e : (r : Int) * (m : Int) = (P : Int) := by rw [hP]; exact (Int.natCast_mul r m).symm
    rw [e, IntKind.wrap_i64]; omega
  have hwF : IntKind.i64.wrap ((P : Int) + (k : Int)) = (F : Int) := by rw [IntKind.wrap_i64]; omega
  have HP := Lib.hid hP
  have HF := Lib.hid hF
  have HL0 := Lib.hid hl0
  obtain ⟨G, hG⟩ : ∃ G, G = n * m := ⟨_, rfl⟩
  have hG8 : G ≤ 16000 := by rw [hG]; have := pNine hz; omega
  have hwG : IntKind.i64.wrap ((n : Int) * (m : Int)) = (G : Int) := by
    have e : (n : Int) * (m : Int) = (G : Int) := by rw [hG]; exact (Int.natCast_mul n m).symm
    rw [e, IntKind.wrap_i64]; omega
  have HGG := Lib.hid hG
  obtain rfl : x = 2 := by omega
  clear ha hx hG
  clear C a6 hB hg hl0 hP hF
  go_wp2_with fail
  go_quiet (fail)
  have HV2 := Lib.hid (HV1.out.same (w' := w1.drewN nq) rfl)
  have HB2 : Hid (Below lo w (w1.drewN nq)) := Lib.hid (below_drewN HB1.out nq)
  have HG2 := Lib.hid (At.same (w' := w1.drewN nq) HG.out rfl)
  clear a0 a1 a3 a4 l0 HV1 HB1 HG HH
  generalize w1.drewN nq = w2 at HV2 HB2 HG2 ⊢
  have l0 : w2.cell? ⟨g, 0, none⟩ = some (.int .i64 2) := (HG2.out.cell 0).trans HL0.out
  obtain ⟨a0, a1, _, a3, a4, _⟩ := HV2.out.seven
  dsimp only at a0 a1 a3 a4
  have f3 := HV2.out.frozen 3
  have f4 := HV2.out.frozen 4
  have C : Hid (∀ W, W.heap = w2.heap → Calls Try.prog 49 #[.pointer (some ⟨rb, 0, none⟩), .int .i64 0, .int .i64 G] W fun e w' => e = .returned (.tuple #[]) ∧ Rent lo rb N ⟨n, m, wipeIf pA ls, r, k, esc, ⟨a, 0, 0, false⟩⟩ W w' ∧ K5 W w') := Lib.hid fun W hW => by
    have OK := HV2.out.ok
    have hlen := OK.len
    have hrow := fun l h => (OK.row l h).1
    dsimp only at hlen hrow
    have := blank_is lo rb N ⟨n, m, ls, r, k, esc, ⟨a, 0, 0, false⟩⟩ 0 G (by omega) (by rw [HGG.out]; exact Nat.le_refl _) W (HV2.out.same hW).rt
    dsimp only at this
    rw [show wipeIf (pS m 0 G) ls = wipeIf pA ls by rw [HGG.out]; exact wipe_A hrow hlen] at this
    exact this
  go_wp2_with fail
  go_still_tail 12, (by kernel_rfl)
  change wpList _ _ _ _ _ w2.drew
  go_wp2_with fail
  go_at_call 49
  refine (C.out w2.drew rfl).mono ?_
  rintro e w3 ⟨rfl, hR, hK⟩
  have FIN : Hid (Rent lo rb N ⟨n, m, wipeIf pA ls, r, k, esc, ⟨a, 0, 0, false⟩⟩ w w3) := Lib.hid (Rent.trans HB2.out ⟨hR.1, hR.2.os, hR.2.tape, hR.2.output, hR.2.size, hR.2.block⟩)
  have l3 : w3.cell? ⟨g, 0, none⟩ = some (.int .i64 2) := ((hK g 3 cs (by decide) (HG2.out.same rfl)).cell 0).trans HL0.out
  clear hR hK C l0 a0 a1 a3 a4 f3 f4
  go_wp2
  go_end0
  exact ⟨rfl, FIN.out⟩
end Go.Proofs.Yteekihhngjbjgaa.vtt
