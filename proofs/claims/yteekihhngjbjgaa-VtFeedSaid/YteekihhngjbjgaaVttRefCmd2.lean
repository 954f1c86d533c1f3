/- Terminals: the document's commands: a place. -/
import Derived.Test.YteekihhngjbjgaaVttRefCmdKit
namespace Go.Proofs.Yteekihhngjbjgaa.vtt
open Go.RowKit Go.Lib Go.Proofs.Yteekihhngjbjgaa.grd
set_option linter.unusedVariables false
set_option linter.unusedSimpArgs false
set_option linter.unnecessarySimpa false
set_option linter.unusedSectionVars false
set_option maxHeartbeats 4000000 in
set_option maxRecDepth 100000 in
theorem refcmd_H1 (lo rb N n m : Nat) (ls : List (List UInt8)) (r k esc a b1 : Nat) (A : Option Addr) (c : Nat) (q : List UInt8) (w : World) (hq : q.length ≤ 1000000) (hd : digest q = ⟨a, b1, 0, false⟩) (H : Rv w lo rb N ⟨n, m, ls, r, k, esc, ⟨a, b1, 0, false⟩⟩ A c q) :
    Calls Try.prog 43 #[.pointer (some ⟨rb, 0, none⟩), .int .u8 72] w fun e w' => e = .returned (.tuple #[]) ∧ Rent lo rb N ⟨n, m, ls, min (max a 1) n - 1, min (max b1 1) m - 1, esc, ⟨a, b1, 0, false⟩⟩ w w' := by
  have HH := Lib.hid H
  have a6 := H.seven.2.2.2.2.2.2
  have C := Lib.hid (numbers_one q w hq a b1 hd)
  have hz := H.ok.size
  have hcu := H.ok.cur
  dsimp only at hz hcu
  have hlw : Hid (lo ≤ w.heap.size) := Lib.hid (by have := H.le; have := H.blk.lt; omega)
  clear H
  go_enter Try.func43, Try.ntmps43
  go_wp2_with fail
  go_at_call 48
  refine C.out.mono ?_
  rintro e w1 ⟨hB, x, g, cc, cs, rfl, hx, ha, hg, hl0, rfl⟩
  have HV1 := Lib.hid (HH.out.below hB)
  have HB1 : Hid (Below lo w w1) := Lib.hid (hB.mono hlw.out)
  have HG := Lib.hid hg
  have l0 : w1.cell? ⟨g, 0, none⟩ = some (.int .i64 x) := (hg.cell 0).trans hl0
  obtain ⟨a0, a1, _, a3, a4, _⟩ := HV1.out.seven
  dsimp only at a0 a1 a3 a4
  unfold rng at hx
  obtain ⟨P, hP⟩ : ∃ P, P = r * m := ⟨_, rfl⟩
  have hP8 : P ≤ 8000 := by rw [hP]; exact Nat.le_trans (Nat.mul_le_mul (show r ≤ 60 by omega) hz.2.2.2) (by decide)
  obtain ⟨F, hF⟩ : ∃ F, F = P + k := ⟨_, rfl⟩
  have hwP : IntKind.i64.wrap ((r : Int) * (m : Int)) = (P : Int) := by
    have e : (r : Int) * (m : Int) = (P : Int) := by rw [hP]; exact (Int.natCast_mul r m).symm
    rw [e, IntKind.wrap_i64]; omega
  have hwF : IntKind.i64.wrap ((P : Int) + (k : Int)) = (F : Int) := by rw [IntKind.wrap_i64]; omega
  have HP := Lib.hid hP
  have HF := Lib.hid hF
  have HL0 := Lib.hid hl0
  obtain ⟨st, hst⟩ : ∃ st : Nat, st = max a 1 := ⟨_, rfl⟩
  have hsti : max x 1 = (st : Int) := by omega
  have hst1 : 1 ≤ st ∧ st ≤ 9999 := by omega
  have HST := Lib.hid hst
  obtain ⟨z, hz1⟩ : ∃ z : Nat, z = min st n - 1 := ⟨_, rfl⟩
  have hzi : IntKind.i64.wrap (min (st : Int) (n : Int) - 1) = (z : Int) := by rw [IntKind.wrap_i64]; omega
  obtain ⟨u, hu1⟩ : ∃ u : Nat, u = min 1 m - 1 := ⟨_, rfl⟩
  have hui : IntKind.i64.wrap (min 1 (m : Int) - 1) = (u : Int) := by rw [IntKind.wrap_i64]; omega
  have HZ : Hid (z = min (max a 1) n - 1) := Lib.hid (by omega)
  have HU : Hid (u = min (max 0 1) m - 1) := Lib.hid (by omega)
  have hzn : z < n := by omega
  have hun : u < m := by omega
  clear hst ha hx hz1 hu1
  clear C a6 hB hg hl0 hP hF
  go_wp2_with fail
  go_quiet (fail)
  have HV2 := Lib.hid (HV1.out.same (w' := w1.drewN nq) rfl)
  have HB2 : Hid (Below lo w (w1.drewN nq)) := Lib.hid (below_drewN HB1.out nq)
  have HG2 := Lib.hid (At.same (w' := w1.drewN nq) HG.out rfl)
  clear a0 a1 a3 a4 l0 HV1 HB1 HG HH
  generalize w1.drewN nq = w2 at HV2 HB2 HG2 ⊢
  have l0 : w2.cell? ⟨g, 0, none⟩ = some (.int .i64 x) := (HG2.out.cell 0).trans HL0.out
  obtain ⟨a0, a1, _, a3, a4, _⟩ := HV2.out.seven
  dsimp only at a0 a1 a3 a4
  have f3 := HV2.out.frozen 3
  have f4 := HV2.out.frozen 4
  have FIN : Hid (Rent lo rb N ⟨n, m, ls, min (max a 1) n - 1, min (max 0 1) m - 1, esc, ⟨a, 0, 0, false⟩⟩ w ((w2.setCell ⟨rb, 3, none⟩ (.int .i64 z)).setCell ⟨rb, 4, none⟩ (.int .i64 u)).drew) := Lib.hid (Rent.trans HB2.out (by
    rw [← HZ.out, ← HU.out]
    exact (HV2.out.went (((But.refl rb w2).setCell 3 _).setCell 4 _) ((HV2.out.blk.set 3 (.int .i64 z)).set 4 (.int .i64 u)) (HV2.out.ok.cursor (r := z) (k := u) hzn hun) rfl rfl HV2.out.two HV2.out.one HV2.out.short).same rfl rfl rfl rfl))
  go_wp2_with fail
  go_region
  all_goals clear a0 a1 a3 a4 f3 f4 l0
  all_goals
    generalize ((w2.setCell ⟨rb, 3, none⟩ (.int .i64 z)).setCell ⟨rb, 4, none⟩ (.int .i64 u)).drew = w3 at FIN ⊢
    go_wp2
    go_end0
    exact ⟨rfl, FIN.out⟩
set_option maxHeartbeats 4000000 in
set_option maxRecDepth 100000 in
theorem refcmd_H2 (lo rb N n m : Nat) (ls : List (List UInt8)) (r k esc a b1 last : Nat) (A : Option Addr) (c : Nat) (q : List UInt8) (hl : 0 < last) (w : World) (hq : q.length ≤ 1000000) (hd : digest q = ⟨a, b1, last, false⟩) (H : Rv w lo rb N ⟨n, m, ls, r, k, esc, ⟨a, b1, last, false⟩⟩ A c q) :
    Calls Try.prog 43 #[.pointer (some ⟨rb, 0, none⟩), .int .u8 72] w fun e w' => e = .returned (.tuple #[]) ∧ Rent lo rb N ⟨n, m, ls, min (max a 1) n - 1, min (max b1 1) m - 1, esc, ⟨a, b1, last, false⟩⟩ w w' := by
  have HH := Lib.hid H
  have a6 := H.seven.2.2.2.2.2.2
  have C := Lib.hid (numbers_two q w hq a b1 last hl hd)
  have hz := H.ok.size
  have hcu := H.ok.cur
  dsimp only at hz hcu
  have hlw : Hid (lo ≤ w.heap.size) := Lib.hid (by have := H.le; have := H.blk.lt; omega)
  clear H
  go_enter Try.func43, Try.ntmps43
  go_wp2_with fail
  go_at_call 48
  refine C.out.mono ?_
  rintro e w1 ⟨hB, x, y, g, cc, cs, rfl, hx, hy, ha, hb, hg, hl0, hl1⟩
  have HV1 := Lib.hid (HH.out.below hB)
  have HB1 : Hid (Below lo w w1) := Lib.hid (hB.mono hlw.out)
  have HG := Lib.hid hg
  have l0 : w1.cell? ⟨g, 0, none⟩ = some (.int .i64 x) := (hg.cell 0).trans hl0
  have l1 : w1.cell? ⟨g, 1, none⟩ = some (.int .i64 y) := (hg.cell 1).trans hl1
  obtain ⟨a0, a1, _, a3, a4, _⟩ := HV1.out.seven
  dsimp only at a0 a1 a3 a4
  unfold rng at hx
  obtain ⟨P, hP⟩ : ∃ P, P = r * m := ⟨_, rfl⟩
  have hP8 : P ≤ 8000 := by rw [hP]; exact Nat.le_trans (Nat.mul_le_mul (show r ≤ 60 by omega) hz.2.2.2) (by decide)
  obtain ⟨F, hF⟩ : ∃ F, F = P + k := ⟨_, rfl⟩
  have hwP : IntKind.i64.wrap ((r : Int) * (m : Int)) = (P : Int) := by
    have e : (r : Int) * (m : Int) = (P : Int) := by rw [hP]; exact (Int.natCast_mul r m).symm
    rw [e, IntKind.wrap_i64]; omega
  have hwF : IntKind.i64.wrap ((P : Int) + (k : Int)) = (F : Int) := by rw [IntKind.wrap_i64]; omega
  have HP := Lib.hid hP
  have HF := Lib.hid hF
  have HL0 := Lib.hid hl0
  unfold rng at hy
  have HL1 := Lib.hid hl1
  obtain ⟨st, hst⟩ : ∃ st : Nat, st = max a 1 := ⟨_, rfl⟩
  have hsti : max x 1 = (st : Int) := by omega
  have hst1 : 1 ≤ st ∧ st ≤ 9999 := by omega
  have HST := Lib.hid hst
  obtain ⟨su, hsu⟩ : ∃ su : Nat, su = max b1 1 := ⟨_, rfl⟩
  have hsui : max y 1 = (su : Int) := by omega
  have hsu1 : 1 ≤ su ∧ su ≤ 9999 := by omega
  obtain ⟨z, hz1⟩ : ∃ z : Nat, z = min st n - 1 := ⟨_, rfl⟩
  have hzi : IntKind.i64.wrap (min (st : Int) (n : Int) - 1) = (z : Int) := by rw [IntKind.wrap_i64]; omega
  obtain ⟨u, hu1⟩ : ∃ u : Nat, u = min su m - 1 := ⟨_, rfl⟩
  have hui : IntKind.i64.wrap (min (su : Int) (m : Int) - 1) = (u : Int) := by rw [IntKind.wrap_i64]; omega
  have HZ : Hid (z = min (max a 1) n - 1) := Lib.hid (by omega)
  have HU : Hid (u = min (max b1 1) m - 1) := Lib.hid (by omega)
  have hzn : z < n := by omega
  have hun : u < m := by omega
  clear hst ha hx hz1 hu1 hb hy hsu
  clear C a6 hB hg hl0 hl1 hP hF
  go_wp2_with fail
  go_quiet (fail)
  have HV2 := Lib.hid (HV1.out.same (w' := w1.drewN nq) rfl)
  have HB2 : Hid (Below lo w (w1.drewN nq)) := Lib.hid (below_drewN HB1.out nq)
  have HG2 := Lib.hid (At.same (w' := w1.drewN nq) HG.out rfl)
  clear a0 a1 a3 a4 l0 l1 HV1 HB1 HG HH
  generalize w1.drewN nq = w2 at HV2 HB2 HG2 ⊢
  have l0 : w2.cell? ⟨g, 0, none⟩ = some (.int .i64 x) := (HG2.out.cell 0).trans HL0.out
  have l1 : w2.cell? ⟨g, 1, none⟩ = some (.int .i64 y) := (HG2.out.cell 1).trans HL1.out
  obtain ⟨a0, a1, _, a3, a4, _⟩ := HV2.out.seven
  dsimp only at a0 a1 a3 a4
  have f3 := HV2.out.frozen 3
  have f4 := HV2.out.frozen 4
  have FIN : Hid (Rent lo rb N ⟨n, m, ls, min (max a 1) n - 1, min (max b1 1) m - 1, esc, ⟨a, b1, last, false⟩⟩ w ((w2.setCell ⟨rb, 3, none⟩ (.int .i64 z)).setCell ⟨rb, 4, none⟩ (.int .i64 u)).drew) := Lib.hid (Rent.trans HB2.out (by
    rw [← HZ.out, ← HU.out]
    exact (HV2.out.went (((But.refl rb w2).setCell 3 _).setCell 4 _) ((HV2.out.blk.set 3 (.int .i64 z)).set 4 (.int .i64 u)) (HV2.out.ok.cursor (r := z) (k := u) hzn hun) rfl rfl HV2.out.two HV2.out.one HV2.out.short).same rfl rfl rfl rfl))
  go_wp2_with fail
  go_region
  all_goals clear a0 a1 a3 a4 f3 f4 l0 l1
  all_goals
    generalize ((w2.setCell ⟨rb, 3, none⟩ (.int .i64 z)).setCell ⟨rb, 4, none⟩ (.int .i64 u)).drew = w3 at FIN ⊢
    go_wp2
    go_end0
    exact ⟨rfl, FIN.out⟩
end Go.Proofs.Yteekihhngjbjgaa.vtt
