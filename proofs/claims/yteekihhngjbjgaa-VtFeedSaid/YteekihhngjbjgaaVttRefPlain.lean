/- Terminals: the document's plain bytes. -/
import Derived.Test.YteekihhngjbjgaaVttRv
import Derived.StillTailTactics
namespace Go.Proofs.Yteekihhngjbjgaa.vtt
open Go.RowKit Go.Lib Go.Proofs.Yteekihhngjbjgaa.grd
set_option linter.unusedVariables false
set_option linter.unusedSimpArgs false
set_option linter.unnecessarySimpa false
set_option linter.unusedSectionVars false

section
variable {w w' w1 : World} {lo rb N N' : Nat} {s s' : Ts} {A : Option Addr} {c : Nat} {q q' : List UInt8}
theorem Rv.went (H : Rv w lo rb N s A c q) (hB : But rb w w') (hA : At w' rb 38 (rc s' A c q')) (ok : Ok s') (e1 : s'.n = s.n) (e3 : s'.ls = s.ls) (h2 : s'.esc = 2 → digest q' = s'.p) (h1 : s'.esc = 1 → q' = []) (hN : q'.length ≤ N') : Rent lo rb N' s' w w' :=
  ⟨(H.turn hB hA ok e1 e3 h2 h1 hN).rt, hB.below H.le⟩
theorem Rent.same (H : Rent lo rb N s w w') (e : w1.heap = w'.heap) (e1 : w1.os = w'.os) (e2 : w1.tape = w'.tape) (e3 : w1.output = w'.output) : Rent lo rb N s w w1 := by
  obtain ⟨⟨A, c, q, H⟩, hB⟩ := H
  exact ⟨⟨A, c, q, H.same e⟩, e1.trans hB.os, e2.trans hB.tape, e3.trans hB.output, by rw [e]; exact hB.size, fun k hk => by rw [e]; exact hB.block k hk⟩
end
set_option maxHeartbeats 4000000 in
set_option maxRecDepth 100000 in
theorem refplain_13 (lo rb N : Nat) (s : Ts) (w : World) (H : Rt w lo rb N s) :
    Calls Try.prog 42 #[.pointer (some ⟨rb, 0, none⟩), .int .u8 13] w fun e w' => e = .returned (.tuple #[]) ∧ Rent lo rb N { s with k := 0 } w w' := by
  obtain ⟨A, c, q, H⟩ := H
  obtain ⟨n, m, ls, r, k, esc, pm⟩ := s
  have f4 := H.frozen 4
  obtain ⟨_, _, _, _, a4, _⟩ := H.seven
  dsimp only at a4
  have FIN : Hid (Rent lo rb N ⟨n, m, ls, r, 0, esc, pm⟩ w (w.setCell ⟨rb, 4, none⟩ (.int .i64 0))) := Lib.hid (H.went ((But.refl rb w).setCell 4 _) (H.blk.set 4 _) (H.ok.cursor (r := r) (k := 0) H.ok.cur.1 (by have := H.ok.size; dsimp only at this ⊢; omega)) rfl rfl H.two H.one H.short)
  clear H
  go_enter Try.func42, Try.ntmps42
  go_wp2_with fail
  go_quiet (fail)
  go_wp2
  go_end0
  exact ⟨rfl, FIN.out.same rfl rfl rfl rfl⟩
set_option maxHeartbeats 4000000 in
set_option maxRecDepth 100000 in
theorem refplain_8 (lo rb N : Nat) (s : Ts) (w : World) (H : Rt w lo rb N s) :
    Calls Try.prog 42 #[.pointer (some ⟨rb, 0, none⟩), .int .u8 8] w fun e w' => e = .returned (.tuple #[]) ∧ Rent lo rb N { s with k := s.k - 1 } w w' := by
  obtain ⟨A, c, q, H⟩ := H
  obtain ⟨n, m, ls, r, k, esc, pm⟩ := s
  have f4 := H.frozen 4
  obtain ⟨_, _, _, _, a4, _⟩ := H.seven
  dsimp only at a4
  have hcu := H.ok.cur
  have hz := H.ok.size
  dsimp only at hcu hz
  obtain ⟨z, hq⟩ : ∃ z, z = k - 1 := ⟨_, rfl⟩
  have hqi : max ((k : Int) - 1) 0 = (z : Int) := by rw [hq]; omega
  have hw1 : IntKind.i64.wrap ((k : Int) - 1) = (k : Int) - 1 := by rw [IntKind.wrap_i64]; omega
  have FIN : Hid (Rent lo rb N ⟨n, m, ls, r, k - 1, esc, pm⟩ w (w.setCell ⟨rb, 4, none⟩ (.int .i64 z))) := Lib.hid (by
    refine H.went ((But.refl rb w).setCell 4 _) ?_ (H.ok.cursor (r := r) (k := k - 1) H.ok.cur.1 (by dsimp only; omega)) rfl rfl H.two H.one H.short
    rw [hq]; exact H.blk.set 4 _)
  clear H hq
  go_enter Try.func42, Try.ntmps42
  go_wp2_with fail
  go_quiet (fail)
  go_wp2
  go_end0
  exact ⟨rfl, FIN.out.same rfl rfl rfl rfl⟩
set_option maxHeartbeats 4000000 in
set_option maxRecDepth 100000 in
/-- A line's end above the last row. -/
theorem refplain_10 (lo rb N : Nat) (s : Ts) (hl : s.r + 1 < s.n) (w : World) (H : Rt w lo rb N s) :
    Calls Try.prog 42 #[.pointer (some ⟨rb, 0, none⟩), .int .u8 10] w fun e w' => e = .returned (.tuple #[]) ∧ Rent lo rb N { s with r := s.r + 1 } w w' := by
  obtain ⟨A, c, q, H⟩ := H
  obtain ⟨n, m, ls, r, k, esc, pm⟩ := s
  have f3 := H.frozen 3
  obtain ⟨a0, _, _, a3, _⟩ := H.seven
  dsimp only at a0 a3 hl
  have hcu := H.ok.cur
  have hz := H.ok.size
  dsimp only at hcu hz
  have hwn : IntKind.i64.wrap ((n : Int) - 1) = (n : Int) - 1 := by rw [IntKind.wrap_i64]; omega
  have hwr : IntKind.i64.wrap ((r : Int) + 1) = (r : Int) + 1 := by rw [IntKind.wrap_i64]; omega
  have e3 : decide ((r : Int) < (n : Int) - 1) = true := by simp; omega
  have FIN : Hid (Rent lo rb N ⟨n, m, ls, r + 1, k, esc, pm⟩ w (w.setCell ⟨rb, 3, none⟩ (.int .i64 ((r : Int) + 1)))) := Lib.hid (H.went ((But.refl rb w).setCell 3 _) (H.blk.set 3 _) (H.ok.cursor (r := r + 1) (k := k) hl hcu.2) rfl rfl H.two H.one H.short)
  clear H
  go_enter Try.func42, Try.ntmps42
  go_wp2_with fail
  go_quiet (fail)
  go_wp2
  refine bodyPost_ret (results_none rfl _ _ _) rfl ?_
  exact ⟨rfl, FIN.out.same rfl rfl rfl rfl⟩
set_option maxHeartbeats 4000000 in
set_option maxRecDepth 100000 in
theorem refplain_put (lo rb N : Nat) (s : Ts) (c0 : UInt8) (w : World) (hc : 32 ≤ c0.toNat ∧ c0.toNat ≤ 126) (H : Rt w lo rb N s) :
    Calls Try.prog 42 #[.pointer (some ⟨rb, 0, none⟩), .int .u8 (c0.toNat : Int)] w fun e w' => e = .returned (.tuple #[]) ∧ Rent lo rb N { s with ls := setAt s.ls s.r s.k c0, k := min (s.k + 1) (s.m - 1) } w w' := by
  obtain ⟨A, c, q, H⟩ := H
  obtain ⟨n, m, ls, r, k, esc, pm⟩ := s
  obtain ⟨hr, hk⟩ := H.ok.cur
  have hz := H.ok.size
  dsimp only at hr hk hz
  obtain ⟨hb, b, d, v, rfl, c1, c2, c3, c4, c5, c6, H2⟩ := H.put r k hr hk c0 (okB_iff.2 hc)
  obtain ⟨_, _, a2, a3, a4, _⟩ := H.seven
  dsimp only at a2 a3 a4 c1
  have HV2 : Hid (Rv (w.setCell ⟨b, k, none⟩ (.int .u8 (c0.toNat : Int))).drew lo rb N ⟨n, m, setAt ls r k c0, r, k, esc, pm⟩ (some ⟨hb, 0, none⟩) c q) := Lib.hid (H2.same rfl)
  have HB2 : Hid (Below lo w (w.setCell ⟨b, k, none⟩ (.int .u8 (c0.toNat : Int))).drew) := Lib.hid (below_drew ((Below.refl lo w).setCell (p := ⟨b, k, none⟩) c4 _))
  obtain ⟨z, hq⟩ : ∃ z, z = min (k + 1) (m - 1) := ⟨_, rfl⟩
  have hqi : min ((k : Int) + 1) ((m : Int) - 1) = (z : Int) := by rw [hq]; omega
  have hw1 : IntKind.i64.wrap ((k : Int) + 1) = (k : Int) + 1 := by rw [IntKind.wrap_i64]; omega
  have hw2 : IntKind.i64.wrap ((m : Int) - 1) = (m : Int) - 1 := by rw [IntKind.wrap_i64]; omega
  have hqm : z < m := by omega
  have HQ := Lib.hid hq
  obtain ⟨hc1, hc2⟩ := hc
  have g1 : decide ((32 : Int) ≤ (c0.toNat : Int)) = true := by simp; omega
  have g2 : decide ((c0.toNat : Int) ≤ 126) = true := by simp; omega
  have e13 : ((c0.toNat : Int) == 13) = false := by simp; omega
  have e10 : ((c0.toNat : Int) == 10) = false := by simp; omega
  have e8 : ((c0.toNat : Int) == 8) = false := by simp; omega
  clear H H2 hq hc1 hc2 c4 c5 c6
  go_enter Try.func42, Try.ntmps42
  go_wp2_with fail
  go_still_tail 18, (by kernel_rfl)
  change wpList _ _ _ _ _ w.drew
  go_wp2_with fail
  generalize (w.setCell ⟨b, k, none⟩ (.int .u8 (c0.toNat : Int))).drew = w2 at HV2 HB2 ⊢
  clear a2 a3 a4 c1 c2 c3
  obtain ⟨_, a1, _, _, a4, _⟩ := HV2.out.seven
  have f4 := HV2.out.frozen 4
  dsimp only at a1 a4
  have FIN : Hid (Rent lo rb N ⟨n, m, setAt ls r k c0, r, min (k + 1) (m - 1), esc, pm⟩ w (w2.drew.setCell ⟨rb, 4, none⟩ (.int .i64 z))) := Lib.hid (Rent.trans HB2.out (by
    refine HV2.out.went ((But.refl rb w2).drew.setCell 4 _) ?_ (HV2.out.ok.cursor (r := r) (k := min (k + 1) (m - 1)) hr (by rw [← HQ.out]; exact hqm)) rfl rfl HV2.out.two HV2.out.one HV2.out.short
    rw [HQ.out]; exact (HV2.out.same (w' := w2.drew) rfl).blk.set 4 _))
  go_still_tail 14, (by kernel_rfl)
  change wpList _ _ _ _ _ w2.drew
  go_wp2_with fail
  go_quiet (fail)
  go_wp2
  go_end0
  exact ⟨rfl, FIN.out.same rfl rfl rfl rfl⟩
set_option maxHeartbeats 4000000 in
set_option maxRecDepth 100000 in
/-- Any other byte: nothing. -/
theorem refplain_x (lo rb N : Nat) (s : Ts) (x : Nat) (w : World) (e13 : x ≠ 13) (e10 : x ≠ 10) (e8 : x ≠ 8) (hx : ¬ (32 ≤ x ∧ x ≤ 126)) (H : Rt w lo rb N s) :
    Calls Try.prog 42 #[.pointer (some ⟨rb, 0, none⟩), .int .u8 (x : Int)] w fun e w' => e = .returned (.tuple #[]) ∧ Rent lo rb N s w w' := by
  have FIN : Hid (Rent lo rb N s w w) := Lib.hid ⟨H, Below.refl _ _⟩
  have q13 : ((x : Int) == 13) = false := by simp; omega
  have q10 : ((x : Int) == 10) = false := by simp; omega
  have q8 : ((x : Int) == 8) = false := by simp; omega
  clear H e13 e10 e8
  by_cases h1 : 32 ≤ x
  · have d1 : decide ((32 : Int) ≤ (x : Int)) = true := by simp; omega
    have d2 : decide ((x : Int) ≤ 126) = false := by simp; omega
    clear hx
    go_enter Try.func42, Try.ntmps42
    go_wp2_with fail
    go_quiet (fail)
    go_wp2
    go_end0
    exact ⟨rfl, FIN.out.same rfl rfl rfl rfl⟩
  · have d1 : decide ((32 : Int) ≤ (x : Int)) = false := by simp; omega
    clear hx
    go_enter Try.func42, Try.ntmps42
    go_wp2_with fail
    go_quiet (fail)
    go_wp2
    go_end0
    exact ⟨rfl, FIN.out.same rfl rfl rfl rfl⟩
end Go.Proofs.Yteekihhngjbjgaa.vtt
