/- Terminals: the document's commands: the cursor. -/
import Derived.Test.YteekihhngjbjgaaVttRefCmdKit
namespace Go.Proofs.Yteekihhngjbjgaa.vtt
open Go.RowKit Go.Lib Go.Proofs.Yteekihhngjbjgaa.grd
set_option linter.unusedVariables false
set_option linter.unusedSimpArgs false
set_option linter.unnecessarySimpa false
set_option linter.unusedSectionVars false
set_option maxHeartbeats 4000000 in
set_option maxRecDepth 100000 in
theorem refcmd_A (lo rb N n m : Nat) (ls : List (List UInt8)) (r k esc a b1 : Nat) (A : Option Addr) (c : Nat) (q : List UInt8) (w : World) (hq : q.length ≤ 1000000) (hd : digest q = ⟨a, b1, 0, false⟩) (H : Rv w lo rb N ⟨n, m, ls, r, k, esc, ⟨a, b1, 0, false⟩⟩ A c q) :
    Calls Try.prog 43 #[.pointer (some ⟨rb, 0, none⟩), .int .u8 65] w fun e w' => e = .returned (.tuple #[]) ∧ Rent lo rb N ⟨n, m, ls, r - max a 1, k, esc, ⟨a, b1, 0, false⟩⟩ w w' := by
  have HH := Lib.hid H
  have a6 := H.seven.2.2.2.2.2.2
  have C := Lib.hid (numbers_one q w hq a b1 hd)
  have hz := H.ok.size
  have hcu := H.ok.cur
  dsimp only at hz hcu
  have hlw : Hid (lo ≤ w.heap.size) := Lib.hid (by have := H.le; have := H.blk.lt; omega)
  clear H
  go_enter Try.func43, Try.ntmps43
  go_wp2_with fail
  go_at_call 48
  refine C.out.mono ?_
  rintro e w1 ⟨hB, x, g, cc, cs, rfl, hx, ha, hg, hl0, rfl⟩
  have HV1 := Lib.hid (HH.out.below hB)
  have HB1 : Hid (Below lo w w1) := Lib.hid (hB.mono hlw.out)
  have HG := Lib.hid hg
  have l0 : w1.cell? ⟨g, 0, none⟩ = some (.int .i64 x) := (hg.cell 0).trans hl0
  obtain ⟨a0, a1, _, a3, a4, _⟩ := HV1.out.seven
  dsimp only at a0 a1 a3 a4
  unfold rng at hx
  obtain ⟨P, hP⟩ : ∃ P, P = r * m := ⟨_, rfl⟩
  have hP8 : P ≤ 8000 := by rw [hP]; exact Nat.le_trans (Nat.mul_le_mul (show r ≤ 60 by omega) hz.2.2.2) (by decide)
  obtain ⟨F, hF⟩ : ∃ F, F = P + k := ⟨_, rfl⟩
  have hwP : IntKind.i64.wrap ((r : Int) * (m : Int)) = (P : Int) := by
    have e : (r : Int) * (m : Int) = (P : Int) := by rw [hP]; exact (Int.natCast_mul r m).symm
    rw [e, IntKind.wrap_i64]; omega
  have hwF : IntKind.i64.wrap ((P : Int) + (k : Int)) = (F : Int) := by rw [IntKind.wrap_i64]; omega
  have HP := Lib.hid hP
  have HF := Lib.hid hF
  have HL0 := Lib.hid hl0
  obtain ⟨st, hst⟩ : ∃ st : Nat, st = max a 1 := ⟨_, rfl⟩
  have hsti : max x 1 = (st : Int) := by omega
  have hst1 : 1 ≤ st ∧ st ≤ 9999 := by omega
  have HST := Lib.hid hst
  obtain ⟨z, hz1⟩ : ∃ z : Nat, z = r - st := ⟨_, rfl⟩
  have hzi : max ((r : Int) - (st : Int)) 0 = (z : Int) := by omega
  have HZ := Lib.hid hz1
  have hzb : z < 200 := by omega
  clear hz1
  have hw94652 : IntKind.i64.wrap ((r : Int) - (st : Int)) = (r : Int) - (st : Int) := by rw [IntKind.wrap_i64]; omega
  clear hst ha hx
  clear C a6 hB hg hl0 hP hF
  go_wp2_with fail
  go_quiet (fail)
  have HV2 := Lib.hid (HV1.out.same (w' := w1.drewN nq) rfl)
  have HB2 : Hid (Below lo w (w1.drewN nq)) := Lib.hid (below_drewN HB1.out nq)
  have HG2 := Lib.hid (At.same (w' := w1.drewN nq) HG.out rfl)
  clear a0 a1 a3 a4 l0 HV1 HB1 HG HH
  generalize w1.drewN nq = w2 at HV2 HB2 HG2 ⊢
  have l0 : w2.cell? ⟨g, 0, none⟩ = some (.int .i64 x) := (HG2.out.cell 0).trans HL0.out
  obtain ⟨a0, a1, _, a3, a4, _⟩ := HV2.out.seven
  dsimp only at a0 a1 a3 a4
  have f3 := HV2.out.frozen 3
  have f4 := HV2.out.frozen 4
  have FIN : Hid (Rent lo rb N ⟨n, m, ls, r - max a 1, k, esc, ⟨a, 0, 0, false⟩⟩ w (w2.setCell ⟨rb, 3, none⟩ (.int .i64 z))) := Lib.hid (Rent.trans HB2.out (by
    rw [← HST.out, ← HZ.out]
    exact HV2.out.went ((But.refl rb w2).setCell 3 _) (HV2.out.blk.set 3 _) (HV2.out.ok.cursor (r := z) (k := k) (by dsimp only; omega) (by dsimp only; omega)) rfl rfl HV2.out.two HV2.out.one HV2.out.short))
  go_wp2
  go_end0
  exact ⟨rfl, FIN.out.same rfl rfl rfl rfl⟩
set_option maxHeartbeats 4000000 in
set_option maxRecDepth 100000 in
theorem refcmd_D (lo rb N n m : Nat) (ls : List (List UInt8)) (r k esc a b1 : Nat) (A : Option Addr) (c : Nat) (q : List UInt8) (w : World) (hq : q.length ≤ 1000000) (hd : digest q = ⟨a, b1, 0, false⟩) (H : Rv w lo rb N ⟨n, m, ls, r, k, esc, ⟨a, b1, 0, false⟩⟩ A c q) :
    Calls Try.prog 43 #[.pointer (some ⟨rb, 0, none⟩), .int .u8 68] w fun e w' => e = .returned (.tuple #[]) ∧ Rent lo rb N ⟨n, m, ls, r, k - max a 1, esc, ⟨a, b1, 0, false⟩⟩ w w' := by
  have HH := Lib.hid H
  have a6 := H.seven.2.2.2.2.2.2
  have C := Lib.hid (numbers_one q w hq a b1 hd)
  have hz := H.ok.size
  have hcu := H.ok.cur
  dsimp only at hz hcu
  have hlw : Hid (lo ≤ w.heap.size) := Lib.hid (by have := H.le; have := H.blk.lt; omega)
  clear H
  go_enter Try.func43, Try.ntmps43
  go_wp2_with fail
  go_at_call 48
  refine C.out.mono ?_
  rintro e w1 ⟨hB, x, g, cc, cs, rfl, hx, ha, hg, hl0, rfl⟩
  have HV1 := Lib.hid (HH.out.below hB)
  have HB1 : Hid (Below lo w w1) := Lib.hid (hB.mono hlw.out)
  have HG := Lib.hid hg
  have l0 : w1.cell? ⟨g, 0, none⟩ = some (.int .i64 x) := (hg.cell 0).trans hl0
  obtain ⟨a0, a1, _, a3, a4, _⟩ := HV1.out.seven
  dsimp only at a0 a1 a3 a4
  unfold rng at hx
  obtain ⟨P, hP⟩ : ∃ P, P = r * m := ⟨_, rfl⟩
  have hP8 : P ≤ 8000 := by rw [hP]; exact Nat.le_trans (Nat.mul_le_mul (show r ≤ 60 by omega) hz.2.2.2) (by decide)
  obtain ⟨F, hF⟩ : ∃ F, F = P + k := ⟨_, rfl⟩
  have hwP : IntKind.i64.wrap ((r : Int) * (m : Int)) = (P : Int) := by
    have e : (r : Int) * (m : Int) = (P : Int) := by rw [hP]; exact (Int.natCast_mul r m).symm
    rw [e, IntKind.wrap_i64]; omega
  have hwF : IntKind.i64.wrap ((P : Int) + (k : Int)) = (F : Int) := by rw [IntKind.wrap_i64]; omega
  have HP := Lib.hid hP
  have HF := Lib.hid hF
  have HL0 := Lib.hid hl0
  obtain ⟨st, hst⟩ : ∃ st : Nat, st = max a 1 := ⟨_, rfl⟩
  have hsti : max x 1 = (st : Int) := by omega
  have hst1 : 1 ≤ st ∧ st ≤ 9999 := by omega
  have HST := Lib.hid hst
  obtain ⟨z, hz1⟩ : ∃ z : Nat, z = k - st := ⟨_, rfl⟩
  have hzi : max ((k : Int) - (st : Int)) 0 = (z : Int) := by omega
  have HZ := Lib.hid hz1
  have hzb : z < 200 := by omega
  clear hz1
  have hw3038 : IntKind.i64.wrap ((k : Int) - (st : Int)) = (k : Int) - (st : Int) := by rw [IntKind.wrap_i64]; omega
  clear hst ha hx
  clear C a6 hB hg hl0 hP hF
  go_wp2_with fail
  go_quiet (fail)
  have HV2 := Lib.hid (HV1.out.same (w' := w1.drewN nq) rfl)
  have HB2 : Hid (Below lo w (w1.drewN nq)) := Lib.hid (below_drewN HB1.out nq)
  have HG2 := Lib.hid (At.same (w' := w1.drewN nq) HG.out rfl)
  clear a0 a1 a3 a4 l0 HV1 HB1 HG HH
  generalize w1.drewN nq = w2 at HV2 HB2 HG2 ⊢
  have l0 : w2.cell? ⟨g, 0, none⟩ = some (.int .i64 x) := (HG2.out.cell 0).trans HL0.out
  obtain ⟨a0, a1, _, a3, a4, _⟩ := HV2.out.seven
  dsimp only at a0 a1 a3 a4
  have f3 := HV2.out.frozen 3
  have f4 := HV2.out.frozen 4
  have FIN : Hid (Rent lo rb N ⟨n, m, ls, r, k - max a 1, esc, ⟨a, 0, 0, false⟩⟩ w (w2.setCell ⟨rb, 4, none⟩ (.int .i64 z))) := Lib.hid (Rent.trans HB2.out (by
    rw [← HST.out, ← HZ.out]
    exact HV2.out.went ((But.refl rb w2).setCell 4 _) (HV2.out.blk.set 4 _) (HV2.out.ok.cursor (r := r) (k := z) (by dsimp only; omega) (by dsimp only; omega)) rfl rfl HV2.out.two HV2.out.one HV2.out.short))
  go_wp2
  go_end0
  exact ⟨rfl, FIN.out.same rfl rfl rfl rfl⟩
set_option maxHeartbeats 4000000 in
set_option maxRecDepth 100000 in
theorem refcmd_B (lo rb N n m : Nat) (ls : List (List UInt8)) (r k esc a b1 : Nat) (A : Option Addr) (c : Nat) (q : List UInt8) (w : World) (hq : q.length ≤ 1000000) (hd : digest q = ⟨a, b1, 0, false⟩) (H : Rv w lo rb N ⟨n, m, ls, r, k, esc, ⟨a, b1, 0, false⟩⟩ A c q) :
    Calls Try.prog 43 #[.pointer (some ⟨rb, 0, none⟩), .int .u8 66] w fun e w' => e = .returned (.tuple #[]) ∧ Rent lo rb N ⟨n, m, ls, min (r + max a 1) (n - 1), k, esc, ⟨a, b1, 0, false⟩⟩ w w' := by
  have HH := Lib.hid H
  have a6 := H.seven.2.2.2.2.2.2
  have C := Lib.hid (numbers_one q w hq a b1 hd)
  have hz := H.ok.size
  have hcu := H.ok.cur
  dsimp only at hz hcu
  have hlw : Hid (lo ≤ w.heap.size) := Lib.hid (by have := H.le; have := H.blk.lt; omega)
  clear H
  go_enter Try.func43, Try.ntmps43
  go_wp2_with fail
  go_at_call 48
  refine C.out.mono ?_
  rintro e w1 ⟨hB, x, g, cc, cs, rfl, hx, ha, hg, hl0, rfl⟩
  have HV1 := Lib.hid (HH.out.below hB)
  have HB1 : Hid (Below lo w w1) := Lib.hid (hB.mono hlw.out)
  have HG := Lib.hid hg
  have l0 : w1.cell? ⟨g, 0, none⟩ = some (.int .i64 x) := (hg.cell 0).trans hl0
  obtain ⟨a0, a1, _, a3, a4, _⟩ := HV1.out.seven
  dsimp only at a0 a1 a3 a4
  unfold rng at hx
  obtain ⟨P, hP⟩ : ∃ P, P = r * m := ⟨_, rfl⟩
  have hP8 : P ≤ 8000 := by rw [hP]; exact Nat.le_trans (Nat.mul_le_mul (show r ≤ 60 by omega) hz.2.2.2) (by decide)
  obtain ⟨F, hF⟩ : ∃ F, F = P + k := ⟨_, rfl⟩
  have hwP : IntKind.i64.wrap ((r : Int) * (m : Int)) = (P : Int) := by
    have e : (r : Int) * (m : Int) = (P : Int) := by rw [hP]; exact (Int.natCast_mul r m).symm
    rw [e, IntKind.wrap_i64]; omega
  have hwF : IntKind.i64.wrap ((P : Int) + (k : Int)) = (F : Int) := by rw [IntKind.wrap_i64]; omega
  have HP := Lib.hid hP
  have HF := Lib.hid hF
  have HL0 := Lib.hid hl0
  obtain ⟨st, hst⟩ : ∃ st : Nat, st = max a 1 := ⟨_, rfl⟩
  have hsti : max x 1 = (st : Int) := by omega
  have hst1 : 1 ≤ st ∧ st ≤ 9999 := by omega
  have HST := Lib.hid hst
  obtain ⟨z, hz1⟩ : ∃ z : Nat, z = min (r + st) (n - 1) := ⟨_, rfl⟩
  have hzi : min ((r : Int) + (st : Int)) ((n : Int) - 1) = (z : Int) := by omega
  have HZ := Lib.hid hz1
  have hzb : z < 200 := by omega
  clear hz1
  have hw15368 : IntKind.i64.wrap ((r : Int) + (st : Int)) = (r : Int) + (st : Int) := by rw [IntKind.wrap_i64]; omega
  have hw71561 : IntKind.i64.wrap ((n : Int) - 1) = (n : Int) - 1 := by rw [IntKind.wrap_i64]; omega
  clear hst ha hx
  clear C a6 hB hg hl0 hP hF
  go_wp2_with fail
  go_quiet (fail)
  have HV2 := Lib.hid (HV1.out.same (w' := w1.drewN nq) rfl)
  have HB2 : Hid (Below lo w (w1.drewN nq)) := Lib.hid (below_drewN HB1.out nq)
  have HG2 := Lib.hid (At.same (w' := w1.drewN nq) HG.out rfl)
  clear a0 a1 a3 a4 l0 HV1 HB1 HG HH
  generalize w1.drewN nq = w2 at HV2 HB2 HG2 ⊢
  have l0 : w2.cell? ⟨g, 0, none⟩ = some (.int .i64 x) := (HG2.out.cell 0).trans HL0.out
  obtain ⟨a0, a1, _, a3, a4, _⟩ := HV2.out.seven
  dsimp only at a0 a1 a3 a4
  have f3 := HV2.out.frozen 3
  have f4 := HV2.out.frozen 4
  have FIN : Hid (Rent lo rb N ⟨n, m, ls, min (r + max a 1) (n - 1), k, esc, ⟨a, 0, 0, false⟩⟩ w (w2.setCell ⟨rb, 3, none⟩ (.int .i64 z))) := Lib.hid (Rent.trans HB2.out (by
    rw [← HST.out, ← HZ.out]
    exact HV2.out.went ((But.refl rb w2).setCell 3 _) (HV2.out.blk.set 3 _) (HV2.out.ok.cursor (r := z) (k := k) (by dsimp only; omega) (by dsimp only; omega)) rfl rfl HV2.out.two HV2.out.one HV2.out.short))
  go_wp2_with fail
  go_still_tail 15, (by kernel_rfl)
  change wpList _ _ _ _ _ w2.drew
  go_wp2
  go_end0
  exact ⟨rfl, FIN.out.same rfl rfl rfl rfl⟩
set_option maxHeartbeats 4000000 in
set_option maxRecDepth 100000 in
theorem refcmd_C (lo rb N n m : Nat) (ls : List (List UInt8)) (r k esc a b1 : Nat) (A : Option Addr) (c : Nat) (q : List UInt8) (w : World) (hq : q.length ≤ 1000000) (hd : digest q = ⟨a, b1, 0, false⟩) (H : Rv w lo rb N ⟨n, m, ls, r, k, esc, ⟨a, b1, 0, false⟩⟩ A c q) :
    Calls Try.prog 43 #[.pointer (some ⟨rb, 0, none⟩), .int .u8 67] w fun e w' => e = .returned (.tuple #[]) ∧ Rent lo rb N ⟨n, m, ls, r, min (k + max a 1) (m - 1), esc, ⟨a, b1, 0, false⟩⟩ w w' := by
  have HH := Lib.hid H
  have a6 := H.seven.2.2.2.2.2.2
  have C := Lib.hid (numbers_one q w hq a b1 hd)
  have hz := H.ok.size
  have hcu := H.ok.cur
  dsimp only at hz hcu
  have hlw : Hid (lo ≤ w.heap.size) := Lib.hid (by have := H.le; have := H.blk.lt; omega)
  clear H
  go_enter Try.func43, Try.ntmps43
  go_wp2_with fail
  go_at_call 48
  refine C.out.mono ?_
  rintro e w1 ⟨hB, x, g, cc, cs, rfl, hx, ha, hg, hl0, rfl⟩
  have HV1 := Lib.hid (HH.out.below hB)
  have HB1 : Hid (Below lo w w1) := Lib.hid (hB.mono hlw.out)
  have HG := Lib.hid hg
  have l0 : w1.cell? ⟨g, 0, none⟩ = some (.int .i64 x) := (hg.cell 0).trans hl0
  obtain ⟨a0, a1, _, a3, a4, _⟩ := HV1.out.seven
  dsimp only at a0 a1 a3 a4
  unfold rng at hx
  obtain ⟨P, hP⟩ : ∃ P, P = r * m := ⟨_, rfl⟩
  have hP8 : P ≤ 8000 := by rw [hP]; exact Nat.le_trans (Nat.mul_le_mul (show r ≤ 60 by omega) hz.2.2.2) (by decide)
  obtain ⟨F, hF⟩ : ∃ F, F = P + k := ⟨_, rfl⟩
  have hwP : IntKind.i64.wrap ((r : Int) * (m : Int)) = (P : Int) := by
    have e : (r : Int) * (m : Int) = (P : Int) := by rw [hP]; exact (Int.natCast_mul r m).symm
    rw [e, IntKind.wrap_i64]; omega
  have hwF : IntKind.i64.wrap ((P : Int) + (k : Int)) = (F : Int) := by rw [IntKind.wrap_i64]; omega
  have HP := Lib.hid hP
  have HF := Lib.hid hF
  have HL0 := Lib.hid hl0
  obtain ⟨st, hst⟩ : ∃ st : Nat, st = max a 1 := ⟨_, rfl⟩
  have hsti : max x 1 = (st : Int) := by omega
  have hst1 : 1 ≤ st ∧ st ≤ 9999 := by omega
  have HST := Lib.hid hst
  obtain ⟨z, hz1⟩ : ∃ z : Nat, z = min (k + st) (m - 1) := ⟨_, rfl⟩
  have hzi : min ((k : Int) + (st : Int)) ((m : Int) - 1) = (z : Int) := by omega
  have HZ := Lib.hid hz1
  have hzb : z < 200 := by omega
  clear hz1
  have hw14455 : IntKind.i64.wrap ((k : Int) + (st : Int)) = (k : Int) + (st : Int) := by rw [IntKind.wrap_i64]; omega
  have hw51314 : IntKind.i64.wrap ((m : Int) - 1) = (m : Int) - 1 := by rw [IntKind.wrap_i64]; omega
  clear hst ha hx
  clear C a6 hB hg hl0 hP hF
  go_wp2_with fail
  go_quiet (fail)
  have HV2 := Lib.hid (HV1.out.same (w' := w1.drewN nq) rfl)
  have HB2 : Hid (Below lo w (w1.drewN nq)) := Lib.hid (below_drewN HB1.out nq)
  have HG2 := Lib.hid (At.same (w' := w1.drewN nq) HG.out rfl)
  clear a0 a1 a3 a4 l0 HV1 HB1 HG HH
  generalize w1.drewN nq = w2 at HV2 HB2 HG2 ⊢
  have l0 : w2.cell? ⟨g, 0, none⟩ = some (.int .i64 x) := (HG2.out.cell 0).trans HL0.out
  obtain ⟨a0, a1, _, a3, a4, _⟩ := HV2.out.seven
  dsimp only at a0 a1 a3 a4
  have f3 := HV2.out.frozen 3
  have f4 := HV2.out.frozen 4
  have FIN : Hid (Rent lo rb N ⟨n, m, ls, r, min (k + max a 1) (m - 1), esc, ⟨a, 0, 0, false⟩⟩ w (w2.setCell ⟨rb, 4, none⟩ (.int .i64 z))) := Lib.hid (Rent.trans HB2.out (by
    rw [← HST.out, ← HZ.out]
    exact HV2.out.went ((But.refl rb w2).setCell 4 _) (HV2.out.blk.set 4 _) (HV2.out.ok.cursor (r := r) (k := z) (by dsimp only; omega) (by dsimp only; omega)) rfl rfl HV2.out.two HV2.out.one HV2.out.short))
  go_wp2_with fail
  go_still_tail 15, (by kernel_rfl)
  change wpList _ _ _ _ _ w2.drew
  go_wp2
  go_end0
  exact ⟨rfl, FIN.out.same rfl rfl rfl rfl⟩
end Go.Proofs.Yteekihhngjbjgaa.vtt
