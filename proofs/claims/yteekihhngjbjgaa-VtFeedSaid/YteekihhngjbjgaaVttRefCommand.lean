/- Terminals: the document's commands: the others. -/
import Derived.Test.YteekihhngjbjgaaVttRefCmdKit
import Derived.Test.YteekihhngjbjgaaVttRefCmd1
import Derived.Test.YteekihhngjbjgaaVttRefCmd2
import Derived.Test.YteekihhngjbjgaaVttRefCmd3
import Derived.Test.YteekihhngjbjgaaVttRefCmd4
namespace Go.Proofs.Yteekihhngjbjgaa.vtt
open Go.RowKit Go.Lib Go.Proofs.Yteekihhngjbjgaa.grd
set_option linter.unusedVariables false
set_option linter.unusedSimpArgs false
set_option linter.unnecessarySimpa false
set_option linter.unusedSectionVars false
set_option maxHeartbeats 4000000 in
set_option maxRecDepth 100000 in
theorem refcmd_Jx (lo rb N n m : Nat) (ls : List (List UInt8)) (r k esc a b1 : Nat) (A : Option Addr) (c : Nat) (q : List UInt8) (h0 : a ≠ 0) (h2 : a ≠ 2) (w : World) (hq : q.length ≤ 1000000) (hd : digest q = ⟨a, b1, 0, false⟩) (H : Rv w lo rb N ⟨n, m, ls, r, k, esc, ⟨a, b1, 0, false⟩⟩ A c q) :
    Calls Try.prog 43 #[.pointer (some ⟨rb, 0, none⟩), .int .u8 74] w fun e w' => e = .returned (.tuple #[]) ∧ Rent lo rb N ⟨n, m, ls, r, k, esc, ⟨a, b1, 0, false⟩⟩ w w' := by
  have HH := Lib.hid H
  have a6 := H.seven.2.2.2.2.2.2
  have C := Lib.hid (numbers_one q w hq a b1 hd)
  have hz := H.ok.size
  have hcu := H.ok.cur
  dsimp only at hz hcu
  have hlw : Hid (lo ≤ w.heap.size) := Lib.hid (by have := H.le; have := H.blk.lt; omega)
  clear H
  go_enter Try.func43, Try.ntmps43
  go_wp2_with fail
  go_at_call 48
  refine C.out.mono ?_
  rintro e w1 ⟨hB, x, g, cc, cs, rfl, hx, ha, hg, hl0, rfl⟩
  have HV1 := Lib.hid (HH.out.below hB)
  have HB1 : Hid (Below lo w w1) := Lib.hid (hB.mono hlw.out)
  have HG := Lib.hid hg
  have l0 : w1.cell? ⟨g, 0, none⟩ = some (.int .i64 x) := (hg.cell 0).trans hl0
  obtain ⟨a0, a1, _, a3, a4, _⟩ := HV1.out.seven
  dsimp only at a0 a1 a3 a4
  unfold rng at hx
  obtain ⟨P, hP⟩ : ∃ P, P = r * m := ⟨_, rfl⟩
  have hP8 : P ≤ 8000 := by rw [hP]; exact Nat.le_trans (Nat.mul_le_mul (show r ≤ 60 by omega) hz.2.2.2) (by decide)
  obtain ⟨F, hF⟩ : ∃ F, F = P + k := ⟨_, rfl⟩
  have hwP : IntKind.i64.wrap ((r : Int) * (m : Int)) = (P : Int) := by
    have e : (r : Int) * (m : Int) = (P : Int) := by rw [hP]; exact (Int.natCast_mul r m).symm
    rw [e, IntKind.wrap_i64]; omega
  have hwF : IntKind.i64.wrap ((P : Int) + (k : Int)) = (F : Int) := by rw [IntKind.wrap_i64]; omega
  have HP := Lib.hid hP
  have HF := Lib.hid hF
  have HL0 := Lib.hid hl0
  have q0 : (x == 0) = false := by simp; omega
  have q1 : decide (x < 0) = false := by simp; omega
  have q2 : (x == 2) = false := by simp; omega
  clear ha hx
  clear C a6 hB hg hl0 hP hF
  go_wp2_with fail
  go_quiet (fail)
  have HV2 := Lib.hid (HV1.out.same (w' := w1.drewN nq) rfl)
  have HB2 : Hid (Below lo w (w1.drewN nq)) := Lib.hid (below_drewN HB1.out nq)
  have HG2 := Lib.hid (At.same (w' := w1.drewN nq) HG.out rfl)
  clear a0 a1 a3 a4 l0 HV1 HB1 HG HH
  generalize w1.drewN nq = w2 at HV2 HB2 HG2 ⊢
  have l0 : w2.cell? ⟨g, 0, none⟩ = some (.int .i64 x) := (HG2.out.cell 0).trans HL0.out
  obtain ⟨a0, a1, _, a3, a4, _⟩ := HV2.out.seven
  dsimp only at a0 a1 a3 a4
  have f3 := HV2.out.frozen 3
  have f4 := HV2.out.frozen 4
  have FIN : Hid (Rent lo rb N ⟨n, m, ls, r, k, esc, ⟨a, 0, 0, false⟩⟩ w w2) := Lib.hid ⟨HV2.out.rt, HB2.out⟩
  go_wp2
  go_end0
  exact ⟨rfl, FIN.out⟩
set_option maxHeartbeats 4000000 in
set_option maxRecDepth 100000 in
theorem refcmd_Kx (lo rb N n m : Nat) (ls : List (List UInt8)) (r k esc a b1 : Nat) (A : Option Addr) (c : Nat) (q : List UInt8) (h0 : a ≠ 0) (h2 : a ≠ 2) (w : World) (hq : q.length ≤ 1000000) (hd : digest q = ⟨a, b1, 0, false⟩) (H : Rv w lo rb N ⟨n, m, ls, r, k, esc, ⟨a, b1, 0, false⟩⟩ A c q) :
    Calls Try.prog 43 #[.pointer (some ⟨rb, 0, none⟩), .int .u8 75] w fun e w' => e = .returned (.tuple #[]) ∧ Rent lo rb N ⟨n, m, ls, r, k, esc, ⟨a, b1, 0, false⟩⟩ w w' := by
  have HH := Lib.hid H
  have a6 := H.seven.2.2.2.2.2.2
  have C := Lib.hid (numbers_one q w hq a b1 hd)
  have hz := H.ok.size
  have hcu := H.ok.cur
  dsimp only at hz hcu
  have hlw : Hid (lo ≤ w.heap.size) := Lib.hid (by have := H.le; have := H.blk.lt; omega)
  clear H
  go_enter Try.func43, Try.ntmps43
  go_wp2_with fail
  go_at_call 48
  refine C.out.mono ?_
  rintro e w1 ⟨hB, x, g, cc, cs, rfl, hx, ha, hg, hl0, rfl⟩
  have HV1 := Lib.hid (HH.out.below hB)
  have HB1 : Hid (Below lo w w1) := Lib.hid (hB.mono hlw.out)
  have HG := Lib.hid hg
  have l0 : w1.cell? ⟨g, 0, none⟩ = some (.int .i64 x) := (hg.cell 0).trans hl0
  obtain ⟨a0, a1, _, a3, a4, _⟩ := HV1.out.seven
  dsimp only at a0 a1 a3 a4
  unfold rng at hx
  obtain ⟨P, hP⟩ : ∃ P, P = r * m := ⟨_, rfl⟩
  have hP8 : P ≤ 8000 := by rw [hP]; exact Nat.le_trans (Nat.mul_le_mul (show r ≤ 60 by omega) hz.2.2.2) (by decide)
  obtain ⟨F, hF⟩ : ∃ F, F = P + k := ⟨_, rfl⟩
  have hwP : IntKind.i64.wrap ((r : Int) * (m : Int)) = (P : Int) := by
    have e : (r : Int) * (m : Int) = (P : Int) := by rw [hP]; exact (Int.natCast_mul r m).symm
    rw [e, IntKind.wrap_i64]; omega
  have hwF : IntKind.i64.wrap ((P : Int) + (k : Int)) = (F : Int) := by rw [IntKind.wrap_i64]; omega
  have HP := Lib.hid hP
  have HF := Lib.hid hF
  have HL0 := Lib.hid hl0
  have q0 : (x == 0) = false := by simp; omega
  have q1 : decide (x < 0) = false := by simp; omega
  have q2 : (x == 2) = false := by simp; omega
  clear ha hx
  clear C a6 hB hg hl0 hP hF
  go_wp2_with fail
  go_quiet (fail)
  have HV2 := Lib.hid (HV1.out.same (w' := w1.drewN nq) rfl)
  have HB2 : Hid (Below lo w (w1.drewN nq)) := Lib.hid (below_drewN HB1.out nq)
  have HG2 := Lib.hid (At.same (w' := w1.drewN nq) HG.out rfl)
  clear a0 a1 a3 a4 l0 HV1 HB1 HG HH
  generalize w1.drewN nq = w2 at HV2 HB2 HG2 ⊢
  have l0 : w2.cell? ⟨g, 0, none⟩ = some (.int .i64 x) := (HG2.out.cell 0).trans HL0.out
  obtain ⟨a0, a1, _, a3, a4, _⟩ := HV2.out.seven
  dsimp only at a0 a1 a3 a4
  have f3 := HV2.out.frozen 3
  have f4 := HV2.out.frozen 4
  have FIN : Hid (Rent lo rb N ⟨n, m, ls, r, k, esc, ⟨a, 0, 0, false⟩⟩ w w2) := Lib.hid ⟨HV2.out.rt, HB2.out⟩
  go_wp2
  go_end0
  exact ⟨rfl, FIN.out⟩
set_option maxHeartbeats 4000000 in
set_option maxRecDepth 100000 in
theorem refcmd_x (lo rb N n m : Nat) (ls : List (List UInt8)) (r k esc a b1 : Nat) (A : Option Addr) (c : Nat) (q : List UInt8) (y : Nat) (y1 : y ≠ 72) (y2 : y ≠ 65) (y3 : y ≠ 66) (y4 : y ≠ 67) (y5 : y ≠ 68) (y6 : y ≠ 74) (y7 : y ≠ 75) (w : World) (hq : q.length ≤ 1000000) (hd : digest q = ⟨a, b1, 0, false⟩) (H : Rv w lo rb N ⟨n, m, ls, r, k, esc, ⟨a, b1, 0, false⟩⟩ A c q) :
    Calls Try.prog 43 #[.pointer (some ⟨rb, 0, none⟩), .int .u8 (y : Int)] w fun e w' => e = .returned (.tuple #[]) ∧ Rent lo rb N ⟨n, m, ls, r, k, esc, ⟨a, b1, 0, false⟩⟩ w w' := by
  have HH := Lib.hid H
  have a6 := H.seven.2.2.2.2.2.2
  have C := Lib.hid (numbers_one q w hq a b1 hd)
  have hz := H.ok.size
  have hcu := H.ok.cur
  dsimp only at hz hcu
  have hlw : Hid (lo ≤ w.heap.size) := Lib.hid (by have := H.le; have := H.blk.lt; omega)
  clear H
  go_enter Try.func43, Try.ntmps43
  go_wp2_with fail
  go_at_call 48
  refine C.out.mono ?_
  rintro e w1 ⟨hB, x, g, cc, cs, rfl, hx, ha, hg, hl0, rfl⟩
  have HV1 := Lib.hid (HH.out.below hB)
  have HB1 : Hid (Below lo w w1) := Lib.hid (hB.mono hlw.out)
  have HG := Lib.hid hg
  have l0 : w1.cell? ⟨g, 0, none⟩ = some (.int .i64 x) := (hg.cell 0).trans hl0
  obtain ⟨a0, a1, _, a3, a4, _⟩ := HV1.out.seven
  dsimp only at a0 a1 a3 a4
  unfold rng at hx
  obtain ⟨P, hP⟩ : ∃ P, P = r * m := ⟨_, rfl⟩
  have hP8 : P ≤ 8000 := by rw [hP]; exact Nat.le_trans (Nat.mul_le_mul (show r ≤ 60 by omega) hz.2.2.2) (by decide)
  obtain ⟨F, hF⟩ : ∃ F, F = P + k := ⟨_, rfl⟩
  have hwP : IntKind.i64.wrap ((r : Int) * (m : Int)) = (P : Int) := by
    have e : (r : Int) * (m : Int) = (P : Int) := by rw [hP]; exact (Int.natCast_mul r m).symm
    rw [e, IntKind.wrap_i64]; omega
  have hwF : IntKind.i64.wrap ((P : Int) + (k : Int)) = (F : Int) := by rw [IntKind.wrap_i64]; omega
  have HP := Lib.hid hP
  have HF := Lib.hid hF
  have HL0 := Lib.hid hl0
  have q72 : ((y : Int) == 72) = false := by simp; omega
  have q65 : ((y : Int) == 65) = false := by simp; omega
  have q66 : ((y : Int) == 66) = false := by simp; omega
  have q67 : ((y : Int) == 67) = false := by simp; omega
  have q68 : ((y : Int) == 68) = false := by simp; omega
  have q74 : ((y : Int) == 74) = false := by simp; omega
  have q75 : ((y : Int) == 75) = false := by simp; omega
  clear y1 y2 y3 y4 y5 y6 y7
  clear ha hx
  clear C a6 hB hg hl0 hP hF
  go_wp2_with fail
  go_quiet (fail)
  have HV2 := Lib.hid (HV1.out.same (w' := w1.drewN nq) rfl)
  have HB2 : Hid (Below lo w (w1.drewN nq)) := Lib.hid (below_drewN HB1.out nq)
  have HG2 := Lib.hid (At.same (w' := w1.drewN nq) HG.out rfl)
  clear a0 a1 a3 a4 l0 HV1 HB1 HG HH
  generalize w1.drewN nq = w2 at HV2 HB2 HG2 ⊢
  have l0 : w2.cell? ⟨g, 0, none⟩ = some (.int .i64 x) := (HG2.out.cell 0).trans HL0.out
  obtain ⟨a0, a1, _, a3, a4, _⟩ := HV2.out.seven
  dsimp only at a0 a1 a3 a4
  have f3 := HV2.out.frozen 3
  have f4 := HV2.out.frozen 4
  have FIN : Hid (Rent lo rb N ⟨n, m, ls, r, k, esc, ⟨a, 0, 0, false⟩⟩ w w2) := Lib.hid ⟨HV2.out.rt, HB2.out⟩
  go_wp2
  go_end0
  exact ⟨rfl, FIN.out⟩
set_option maxHeartbeats 4000000 in
set_option maxRecDepth 100000 in
theorem refcmd_last (lo rb N n m : Nat) (ls : List (List UInt8)) (r k esc a b1 last : Nat) (A : Option Addr) (c : Nat) (q : List UInt8) (hl : 0 < last) (y : Nat) (hy72 : y ≠ 72) (w : World) (hq : q.length ≤ 1000000) (hd : digest q = ⟨a, b1, last, false⟩) (H : Rv w lo rb N ⟨n, m, ls, r, k, esc, ⟨a, b1, last, false⟩⟩ A c q) :
    Calls Try.prog 43 #[.pointer (some ⟨rb, 0, none⟩), .int .u8 (y : Int)] w fun e w' => e = .returned (.tuple #[]) ∧ Rent lo rb N ⟨n, m, ls, r, k, esc, ⟨a, b1, last, false⟩⟩ w w' := by
  have q72 : ((y : Int) == 72) = false := by simp; omega
  have p72 : ((y : Int) != 72) = true := by simp; omega
  have HH := Lib.hid H
  have a6 := H.seven.2.2.2.2.2.2
  have C := Lib.hid (numbers_two q w hq a b1 last hl hd)
  have hz := H.ok.size
  have hcu := H.ok.cur
  dsimp only at hz hcu
  have hlw : Hid (lo ≤ w.heap.size) := Lib.hid (by have := H.le; have := H.blk.lt; omega)
  clear H
  go_enter Try.func43, Try.ntmps43
  go_wp2_with fail
  go_at_call 48
  refine C.out.mono ?_
  rintro e w1 ⟨hB, x, y', g, cc, cs, rfl, hx, hy, ha, hb, hg, hl0, hl1⟩
  have FIN : Hid (Rent lo rb N ⟨n, m, ls, r, k, esc, ⟨a, b1, last, false⟩⟩ w w1) := Lib.hid ⟨(HH.out.below hB).rt, hB.mono hlw.out⟩
  clear C a6 hB hx hy ha hb hg hl0 hl1
  go_wp2
  refine bodyPost_ret (results_none rfl _ _ _) rfl ?_
  exact ⟨rfl, FIN.out.same rfl rfl rfl rfl⟩
set_option maxHeartbeats 4000000 in
set_option maxRecDepth 100000 in
theorem refcmd_bad (lo rb N : Nat) (s : Ts) (A : Option Addr) (c : Nat) (q : List UInt8) (y : Int) (w : World) (hq : q.length ≤ 1000000) (hd : (digest q).bad = true) (H : Rv w lo rb N s A c q) :
    Calls Try.prog 43 #[.pointer (some ⟨rb, 0, none⟩), .int .u8 y] w fun e w' => e = .returned (.tuple #[]) ∧ Rent lo rb N s w w' := by
  have HH := Lib.hid H
  have a6 := H.seven.2.2.2.2.2.2
  have C := Lib.hid (numbers_bad q w hq hd)
  have hlw : Hid (lo ≤ w.heap.size) := Lib.hid (by have := H.le; have := H.blk.lt; omega)
  clear H
  go_enter Try.func43, Try.ntmps43
  go_wp2_with fail
  go_at_call 48
  refine C.out.mono ?_
  rintro e w1 ⟨hB, hE⟩
  have FIN : Hid (Rent lo rb N s w w1) := Lib.hid ⟨(HH.out.below hB).rt, hB.mono hlw.out⟩
  clear C a6 hB
  rcases hE with rfl | ⟨g, cc, kk, rfl, h2⟩
  · go_wp2
    refine bodyPost_ret (results_none rfl _ _ _) rfl ?_
    exact ⟨rfl, FIN.out.same rfl rfl rfl rfl⟩
  · have d2 : decide ((2 : Int) < (kk : Int)) = true := by simp; omega
    go_wp2
    refine bodyPost_ret (results_none rfl _ _ _) rfl ?_
    exact ⟨rfl, FIN.out.same rfl rfl rfl rfl⟩
theorem refcommand_is (lo rb N : Nat) (s : Ts) (A : Option Addr) (c : Nat) (q : List UInt8) (x : UInt8) (w : World) (hq : q.length ≤ 1000000) (hd : digest q = s.p) (H : Rv w lo rb N s A c q) :
    Calls Try.prog 43 #[.pointer (some ⟨rb, 0, none⟩), .int .u8 (x.toNat : Int)] w fun e w' => e = .returned (.tuple #[]) ∧ Rent lo rb N (obey s x) w w' := by
  obtain ⟨n, m, ls, r, k, esc, ⟨a, b1, last, bad⟩⟩ := s
  dsimp only at hd
  cases bad with
  | true => rw [obey_bad]; exact refcmd_bad lo rb N _ A c q _ w hq (by rw [hd]) H
  | false =>
    by_cases h72 : x.toNat = 72
    · rw [obey_H h72, h72]
      rcases Nat.eq_zero_or_pos last with rfl | hl
      · exact refcmd_H1 lo rb N n m ls r k esc a b1 A c q w hq hd H
      · exact refcmd_H2 lo rb N n m ls r k esc a b1 last A c q hl w hq hd H
    · rcases Nat.eq_zero_or_pos last with rfl | hl
      · rw [obey_0 h72]
        split
        · rename_i h; rw [h]; exact refcmd_A lo rb N n m ls r k esc a b1 A c q w hq hd H
        split
        · rename_i h; rw [h]; exact refcmd_B lo rb N n m ls r k esc a b1 A c q w hq hd H
        split
        · rename_i h; rw [h]; exact refcmd_C lo rb N n m ls r k esc a b1 A c q w hq hd H
        split
        · rename_i h; rw [h]; exact refcmd_D lo rb N n m ls r k esc a b1 A c q w hq hd H
        split
        · rename_i h; rw [h]
          split
          · rename_i h0; exact refcmd_J0 lo rb N n m ls r k esc a b1 A c q h0 w hq hd H
          split
          · rename_i h0 h2; exact refcmd_J2 lo rb N n m ls r k esc a b1 A c q h2 w hq hd H
          · rename_i h0 h2; exact refcmd_Jx lo rb N n m ls r k esc a b1 A c q h0 h2 w hq hd H
        split
        · rename_i h; rw [h]
          split
          · rename_i h0; exact refcmd_K0 lo rb N n m ls r k esc a b1 A c q h0 w hq hd H
          split
          · rename_i h0 h2; exact refcmd_K2 lo rb N n m ls r k esc a b1 A c q h2 w hq hd H
          · rename_i h0 h2; exact refcmd_Kx lo rb N n m ls r k esc a b1 A c q h0 h2 w hq hd H
        · exact refcmd_x lo rb N n m ls r k esc a b1 A c q x.toNat h72 (by assumption) (by assumption) (by assumption) (by assumption) (by assumption) (by assumption) w hq hd H
      · rw [obey_last hl h72]
        exact refcmd_last lo rb N n m ls r k esc a b1 last A c q hl x.toNat h72 w hq hd H
end Go.Proofs.Yteekihhngjbjgaa.vtt
