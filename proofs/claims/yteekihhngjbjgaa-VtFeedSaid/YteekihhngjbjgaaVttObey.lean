/- Terminals: what a command does. -/
import Derived.Test.YteekihhngjbjgaaVttTake
namespace Go.Proofs.Yteekihhngjbjgaa.vtt
open Go.RowKit Go.Lib Go.Proofs.Yteekihhngjbjgaa.grd
set_option linter.unusedVariables false
set_option linter.unusedSimpArgs false
set_option linter.unnecessarySimpa false
set_option linter.unusedSectionVars false

def Obeyed (lo hi b : Nat) (s : Ts) (c : UInt8) (w w' : World) : Prop := Went lo hi b (obey s c) w w'
theorem Obeyed.mk {lo hi b : Nat} {s s' : Ts} {c : UInt8} {w w' : World} (h : Went lo hi b s' w w') (e : obey s c = s') : Obeyed lo hi b s c w w' := by unfold Obeyed; rw [e]; exact h
theorem Went.trans {lo hi b : Nat} {s' : Ts} {w w1 w' : World} (hT : Tn lo hi w w1) (h : Went lo hi b s' w1 w') : Went lo hi b s' w w' := ⟨h.1, hT.trans h.2⟩
section
variable {n m : Nat} {ls : List (List UInt8)} {r k esc a b1 last : Nat} {c : UInt8}
theorem obey_bad : obey ⟨n, m, ls, r, k, esc, ⟨a, b1, last, true⟩⟩ c = ⟨n, m, ls, r, k, esc, ⟨a, b1, last, true⟩⟩ := by unfold obey; rw [if_pos (.inl rfl)]
theorem obey_last (hl : 0 < last) (hc : c.toNat ≠ 72) (bad : Bool) : obey ⟨n, m, ls, r, k, esc, ⟨a, b1, last, bad⟩⟩ c = ⟨n, m, ls, r, k, esc, ⟨a, b1, last, bad⟩⟩ := by unfold obey; rw [if_pos (.inr ⟨hl, hc⟩)]
theorem obey_H (hc : c.toNat = 72) : obey ⟨n, m, ls, r, k, esc, ⟨a, b1, last, false⟩⟩ c = ⟨n, m, ls, min (max a 1) n - 1, min (max b1 1) m - 1, esc, ⟨a, b1, last, false⟩⟩ := by
  unfold obey; rw [if_neg (by simp [hc]), if_pos hc]
theorem obey_0 (hc : c.toNat ≠ 72) : obey ⟨n, m, ls, r, k, esc, ⟨a, b1, 0, false⟩⟩ c =
    (if c.toNat = 65 then ⟨n, m, ls, r - max a 1, k, esc, ⟨a, b1, 0, false⟩⟩
    else if c.toNat = 66 then ⟨n, m, ls, min (r + max a 1) (n - 1), k, esc, ⟨a, b1, 0, false⟩⟩
    else if c.toNat = 67 then ⟨n, m, ls, r, min (k + max a 1) (m - 1), esc, ⟨a, b1, 0, false⟩⟩
    else if c.toNat = 68 then ⟨n, m, ls, r, k - max a 1, esc, ⟨a, b1, 0, false⟩⟩
    else if c.toNat = 74 then (if a = 0 then ⟨n, m, wipeIf (pJ r k) ls, r, k, esc, ⟨a, b1, 0, false⟩⟩ else if a = 2 then ⟨n, m, wipeIf pA ls, r, k, esc, ⟨a, b1, 0, false⟩⟩ else ⟨n, m, ls, r, k, esc, ⟨a, b1, 0, false⟩⟩)
    else if c.toNat = 75 then (if a = 0 then ⟨n, m, wipeIf (p0 r k) ls, r, k, esc, ⟨a, b1, 0, false⟩⟩ else if a = 2 then ⟨n, m, wipeIf (pK r) ls, r, k, esc, ⟨a, b1, 0, false⟩⟩ else ⟨n, m, ls, r, k, esc, ⟨a, b1, 0, false⟩⟩)
    else ⟨n, m, ls, r, k, esc, ⟨a, b1, 0, false⟩⟩) := by
  unfold obey; rw [if_neg (by simp), if_neg hc]
end
/-- Parameters laid into a block of one's own. -/
def pc (p : Pm) : Array Value := #[.int .i64 p.a, .int .i64 p.b, .int .i64 p.last, .bool p.bad]
set_option maxHeartbeats 4000000 in
set_option maxRecDepth 100000 in
theorem obey_x1 (lo hi b : Nat) (n m : Nat) (ls : List (List UInt8)) (r k esc a b1 last : Nat) (x : Int) (w : World) (H : Vt w lo hi b ⟨n, m, ls, r, k, esc, ⟨a, b1, last, true⟩⟩) :
    Calls Try.prog 53 #[.pointer (some ⟨b, 0, none⟩), .int .u8 x] w fun e w' => e = .returned (.tuple #[]) ∧ Went lo hi b ⟨n, m, ls, r, k, esc, ⟨a, b1, last, true⟩⟩ w w' := by
  obtain ⟨h, g, hs, cs, o, H⟩ := H
  have HH := Lib.hid H
  obtain ⟨a0, a1, _, a3, a4, _, a6, a7, a8, a9⟩ := H.ten
  dsimp only at a0 a1 a3 a4 a6 a7 a8 a9
  have hz := H.ok.size
  have hcu := H.ok.cur
  have hpa := H.ok.par
  dsimp only at hz hcu hpa
  clear H
  go_enter Try.func53, Try.ntmps53
  go_wp2
  refine bodyPost_ret (results_none rfl _ _ _) rfl ?_
  exact ⟨rfl, (HH.out.alloc _).vt, (Tn.refl lo hi w).alloc _⟩
set_option maxHeartbeats 4000000 in
set_option maxRecDepth 100000 in
theorem obey_x2 (lo hi b : Nat) (n m : Nat) (ls : List (List UInt8)) (r k esc a b1 : Nat) (x : Nat) (hx : x ≠ 72) (w : World) (H : Vt w lo hi b ⟨n, m, ls, r, k, esc, ⟨a, b1, 1, false⟩⟩) :
    Calls Try.prog 53 #[.pointer (some ⟨b, 0, none⟩), .int .u8 (x : Int)] w fun e w' => e = .returned (.tuple #[]) ∧ Went lo hi b ⟨n, m, ls, r, k, esc, ⟨a, b1, 1, false⟩⟩ w w' := by
  obtain ⟨h, g, hs, cs, o, H⟩ := H
  have HH := Lib.hid H
  obtain ⟨a0, a1, _, a3, a4, _, a6, a7, a8, a9⟩ := H.ten
  dsimp only at a0 a1 a3 a4 a6 a7 a8 a9
  have hz := H.ok.size
  have hcu := H.ok.cur
  have hpa := H.ok.par
  dsimp only at hz hcu hpa
  clear H
  have q72 : ((x : Int) == 72) = false := by simp; omega
  have p72 : ((x : Int) != 72) = true := by simp; omega
  go_enter Try.func53, Try.ntmps53
  go_wp2
  refine bodyPost_ret (results_none rfl _ _ _) rfl ?_
  exact ⟨rfl, (HH.out.alloc _).vt, (Tn.refl lo hi w).alloc _⟩
set_option maxHeartbeats 4000000 in
set_option maxRecDepth 100000 in
theorem obey_A (lo hi b : Nat) (n m : Nat) (ls : List (List UInt8)) (r k esc a b1 : Nat) (w : World) (H : Vt w lo hi b ⟨n, m, ls, r, k, esc, ⟨a, b1, 0, false⟩⟩) :
    Calls Try.prog 53 #[.pointer (some ⟨b, 0, none⟩), .int .u8 65] w fun e w' => e = .returned (.tuple #[]) ∧ Went lo hi b ⟨n, m, ls, r - max a 1, k, esc, ⟨a, b1, 0, false⟩⟩ w w' := by
  obtain ⟨h, g, hs, cs, o, H⟩ := H
  have HH := Lib.hid H
  obtain ⟨a0, a1, _, a3, a4, _, a6, a7, a8, a9⟩ := H.ten
  dsimp only at a0 a1 a3 a4 a6 a7 a8 a9
  have hz := H.ok.size
  have hcu := H.ok.cur
  have hpa := H.ok.par
  dsimp only at hz hcu hpa
  clear H
  have hst : ∃ st : Nat, st = max a 1 := ⟨_, rfl⟩
  obtain ⟨st, hst⟩ := hst
  have hsti : max (a : Int) 1 = (st : Int) := by rw [hst]; omega
  have hst1 : 1 ≤ st ∧ st ≤ 9999 := by omega
  have HST := Lib.hid hst
  clear hst
  go_enter Try.func53, Try.ntmps53
  go_wp2_with fail
  go_quiet (fail)
  have HV := Lib.hid ((HH.out.alloc (.cells #[.int .i64 a, .int .i64 b1, .int .i64 0, .bool false] 44)).same (w' := (w.alloc (.cells #[.int .i64 a, .int .i64 b1, .int .i64 0, .bool false] 44)).drewN nq) rfl)
  have HT := Lib.hid (((Tn.refl lo hi w).alloc (.cells #[.int .i64 a, .int .i64 b1, .int .i64 0, .bool false] 44)).drewN nq)
  have HP := Lib.hid (At.same (w' := (w.alloc (.cells #[.int .i64 a, .int .i64 b1, .int .i64 0, .bool false] 44)).drewN nq) (At.new w 44 #[.int .i64 a, .int .i64 b1, .int .i64 0, .bool false]) rfl)
  generalize (w.alloc (.cells #[.int .i64 a, .int .i64 b1, .int .i64 0, .bool false] 44)).drewN nq = w2 at HV HT HP ⊢
  clear a0 a1 a3 a4 a6 a7 a8 a9
  obtain ⟨a0, a1, _, a3, a4, _⟩ := HV.out.ten
  dsimp only at a0 a1 a3 a4
  have f3 := HV.out.frozen 3
  have f4 := HV.out.frozen 4
  obtain ⟨q, hq⟩ : ∃ q, q = r - st := ⟨_, rfl⟩
  have hqi : max ((r : Int) - (st : Int)) 0 = (q : Int) := by rw [hq]; omega
  have HQ := Lib.hid hq
  have FIN : Hid (Went lo hi b ⟨n, m, ls, r - st, k, esc, ⟨a, b1, 0, false⟩⟩ w (w2.setCell ⟨b, 3, none⟩ (.int .i64 q))) := Lib.hid (Went.trans HT.out (by
    refine HV.out.went ((But.refl b w2).setCell 3 _) ?_ (HV.out.ok.cursor (r := r - st) (k := k) (by dsimp only; omega) (by dsimp only; omega)) rfl rfl rfl
    have := (HV.out.same (w' := w2) rfl).blk.set 3 (.int .i64 q)
    rw [HQ.out] at this ⊢
    exact this))
  clear hq
  go_wp2
  go_end0
  rw [← HST.out]
  exact ⟨rfl, FIN.out⟩
set_option maxHeartbeats 4000000 in
set_option maxRecDepth 100000 in
theorem obey_D (lo hi b : Nat) (n m : Nat) (ls : List (List UInt8)) (r k esc a b1 : Nat) (w : World) (H : Vt w lo hi b ⟨n, m, ls, r, k, esc, ⟨a, b1, 0, false⟩⟩) :
    Calls Try.prog 53 #[.pointer (some ⟨b, 0, none⟩), .int .u8 68] w fun e w' => e = .returned (.tuple #[]) ∧ Went lo hi b ⟨n, m, ls, r, k - max a 1, esc, ⟨a, b1, 0, false⟩⟩ w w' := by
  obtain ⟨h, g, hs, cs, o, H⟩ := H
  have HH := Lib.hid H
  obtain ⟨a0, a1, _, a3, a4, _, a6, a7, a8, a9⟩ := H.ten
  dsimp only at a0 a1 a3 a4 a6 a7 a8 a9
  have hz := H.ok.size
  have hcu := H.ok.cur
  have hpa := H.ok.par
  dsimp only at hz hcu hpa
  clear H
  have hst : ∃ st : Nat, st = max a 1 := ⟨_, rfl⟩
  obtain ⟨st, hst⟩ := hst
  have hsti : max (a : Int) 1 = (st : Int) := by rw [hst]; omega
  have hst1 : 1 ≤ st ∧ st ≤ 9999 := by omega
  have HST := Lib.hid hst
  clear hst
  go_enter Try.func53, Try.ntmps53
  go_wp2_with fail
  go_quiet (fail)
  have HV := Lib.hid ((HH.out.alloc (.cells #[.int .i64 a, .int .i64 b1, .int .i64 0, .bool false] 44)).same (w' := (w.alloc (.cells #[.int .i64 a, .int .i64 b1, .int .i64 0, .bool false] 44)).drewN nq) rfl)
  have HT := Lib.hid (((Tn.refl lo hi w).alloc (.cells #[.int .i64 a, .int .i64 b1, .int .i64 0, .bool false] 44)).drewN nq)
  have HP := Lib.hid (At.same (w' := (w.alloc (.cells #[.int .i64 a, .int .i64 b1, .int .i64 0, .bool false] 44)).drewN nq) (At.new w 44 #[.int .i64 a, .int .i64 b1, .int .i64 0, .bool false]) rfl)
  generalize (w.alloc (.cells #[.int .i64 a, .int .i64 b1, .int .i64 0, .bool false] 44)).drewN nq = w2 at HV HT HP ⊢
  clear a0 a1 a3 a4 a6 a7 a8 a9
  obtain ⟨a0, a1, _, a3, a4, _⟩ := HV.out.ten
  dsimp only at a0 a1 a3 a4
  have f3 := HV.out.frozen 3
  have f4 := HV.out.frozen 4
  obtain ⟨q, hq⟩ : ∃ q, q = k - st := ⟨_, rfl⟩
  have hqi : max ((k : Int) - (st : Int)) 0 = (q : Int) := by rw [hq]; omega
  have HQ := Lib.hid hq
  have FIN : Hid (Went lo hi b ⟨n, m, ls, r, k - st, esc, ⟨a, b1, 0, false⟩⟩ w (w2.setCell ⟨b, 4, none⟩ (.int .i64 q))) := Lib.hid (Went.trans HT.out (by
    refine HV.out.went ((But.refl b w2).setCell 4 _) ?_ (HV.out.ok.cursor (r := r) (k := k - st) (by dsimp only; omega) (by dsimp only; omega)) rfl rfl rfl
    have := (HV.out.same (w' := w2) rfl).blk.set 4 (.int .i64 q)
    rw [HQ.out] at this ⊢
    exact this))
  clear hq
  go_wp2
  go_end0
  rw [← HST.out]
  exact ⟨rfl, FIN.out⟩
set_option maxHeartbeats 4000000 in
set_option maxRecDepth 100000 in
theorem obey_B (lo hi b : Nat) (n m : Nat) (ls : List (List UInt8)) (r k esc a b1 : Nat) (w : World) (H : Vt w lo hi b ⟨n, m, ls, r, k, esc, ⟨a, b1, 0, false⟩⟩) :
    Calls Try.prog 53 #[.pointer (some ⟨b, 0, none⟩), .int .u8 66] w fun e w' => e = .returned (.tuple #[]) ∧ Went lo hi b ⟨n, m, ls, min (r + max a 1) (n - 1), k, esc, ⟨a, b1, 0, false⟩⟩ w w' := by
  obtain ⟨h, g, hs, cs, o, H⟩ := H
  have HH := Lib.hid H
  obtain ⟨a0, a1, _, a3, a4, _, a6, a7, a8, a9⟩ := H.ten
  dsimp only at a0 a1 a3 a4 a6 a7 a8 a9
  have hz := H.ok.size
  have hcu := H.ok.cur
  have hpa := H.ok.par
  dsimp only at hz hcu hpa
  clear H
  have hst : ∃ st : Nat, st = max a 1 := ⟨_, rfl⟩
  obtain ⟨st, hst⟩ := hst
  have hsti : max (a : Int) 1 = (st : Int) := by rw [hst]; omega
  have hst1 : 1 ≤ st ∧ st ≤ 9999 := by omega
  have HST := Lib.hid hst
  clear hst
  go_enter Try.func53, Try.ntmps53
  go_wp2_with fail
  go_quiet (fail)
  have HV := Lib.hid ((HH.out.alloc (.cells #[.int .i64 a, .int .i64 b1, .int .i64 0, .bool false] 44)).same (w' := (w.alloc (.cells #[.int .i64 a, .int .i64 b1, .int .i64 0, .bool false] 44)).drewN nq) rfl)
  have HT := Lib.hid (((Tn.refl lo hi w).alloc (.cells #[.int .i64 a, .int .i64 b1, .int .i64 0, .bool false] 44)).drewN nq)
  have HP := Lib.hid (At.same (w' := (w.alloc (.cells #[.int .i64 a, .int .i64 b1, .int .i64 0, .bool false] 44)).drewN nq) (At.new w 44 #[.int .i64 a, .int .i64 b1, .int .i64 0, .bool false]) rfl)
  generalize (w.alloc (.cells #[.int .i64 a, .int .i64 b1, .int .i64 0, .bool false] 44)).drewN nq = w2 at HV HT HP ⊢
  clear a0 a1 a3 a4 a6 a7 a8 a9
  obtain ⟨a0, a1, _, a3, a4, _⟩ := HV.out.ten
  dsimp only at a0 a1 a3 a4
  have f3 := HV.out.frozen 3
  have f4 := HV.out.frozen 4
  obtain ⟨q, hq⟩ : ∃ q, q = min (r + st) (n - 1) := ⟨_, rfl⟩
  have hqi : min ((r : Int) + (st : Int)) ((n : Int) - 1) = (q : Int) := by rw [hq]; omega
  have hw1 : IntKind.i64.wrap ((r : Int) + (st : Int)) = (r : Int) + (st : Int) := by rw [IntKind.wrap_i64]; omega
  have hw2 : IntKind.i64.wrap ((n : Int) - 1) = (n : Int) - 1 := by rw [IntKind.wrap_i64]; omega
  have HQ := Lib.hid hq
  have FIN : Hid (Went lo hi b ⟨n, m, ls, min (r + st) (n - 1), k, esc, ⟨a, b1, 0, false⟩⟩ w (w2.drew.setCell ⟨b, 3, none⟩ (.int .i64 q))) := Lib.hid (Went.trans HT.out (by
    refine HV.out.went ((But.refl b w2).drew.setCell 3 _) ?_ (HV.out.ok.cursor (r := min (r + st) (n - 1)) (k := k) (by dsimp only; omega) (by dsimp only; omega)) rfl rfl rfl
    have := (HV.out.same (w' := w2.drew) rfl).blk.set 3 (.int .i64 q)
    rw [HQ.out] at this ⊢
    exact this))
  clear hq
  go_wp2_with fail
  go_still_tail 13, (by kernel_rfl)
  change wpList _ _ _ _ _ w2.drew
  go_wp2
  go_end0
  rw [← HST.out]
  exact ⟨rfl, FIN.out⟩
set_option maxHeartbeats 4000000 in
set_option maxRecDepth 100000 in
theorem obey_C (lo hi b : Nat) (n m : Nat) (ls : List (List UInt8)) (r k esc a b1 : Nat) (w : World) (H : Vt w lo hi b ⟨n, m, ls, r, k, esc, ⟨a, b1, 0, false⟩⟩) :
    Calls Try.prog 53 #[.pointer (some ⟨b, 0, none⟩), .int .u8 67] w fun e w' => e = .returned (.tuple #[]) ∧ Went lo hi b ⟨n, m, ls, r, min (k + max a 1) (m - 1), esc, ⟨a, b1, 0, false⟩⟩ w w' := by
  obtain ⟨h, g, hs, cs, o, H⟩ := H
  have HH := Lib.hid H
  obtain ⟨a0, a1, _, a3, a4, _, a6, a7, a8, a9⟩ := H.ten
  dsimp only at a0 a1 a3 a4 a6 a7 a8 a9
  have hz := H.ok.size
  have hcu := H.ok.cur
  have hpa := H.ok.par
  dsimp only at hz hcu hpa
  clear H
  have hst : ∃ st : Nat, st = max a 1 := ⟨_, rfl⟩
  obtain ⟨st, hst⟩ := hst
  have hsti : max (a : Int) 1 = (st : Int) := by rw [hst]; omega
  have hst1 : 1 ≤ st ∧ st ≤ 9999 := by omega
  have HST := Lib.hid hst
  clear hst
  go_enter Try.func53, Try.ntmps53
  go_wp2_with fail
  go_quiet (fail)
  have HV := Lib.hid ((HH.out.alloc (.cells #[.int .i64 a, .int .i64 b1, .int .i64 0, .bool false] 44)).same (w' := (w.alloc (.cells #[.int .i64 a, .int .i64 b1, .int .i64 0, .bool false] 44)).drewN nq) rfl)
  have HT := Lib.hid (((Tn.refl lo hi w).alloc (.cells #[.int .i64 a, .int .i64 b1, .int .i64 0, .bool false] 44)).drewN nq)
  have HP := Lib.hid (At.same (w' := (w.alloc (.cells #[.int .i64 a, .int .i64 b1, .int .i64 0, .bool false] 44)).drewN nq) (At.new w 44 #[.int .i64 a, .int .i64 b1, .int .i64 0, .bool false]) rfl)
  generalize (w.alloc (.cells #[.int .i64 a, .int .i64 b1, .int .i64 0, .bool false] 44)).drewN nq = w2 at HV HT HP ⊢
  clear a0 a1 a3 a4 a6 a7 a8 a9
  obtain ⟨a0, a1, _, a3, a4, _⟩ := HV.out.ten
  dsimp only at a0 a1 a3 a4
  have f3 := HV.out.frozen 3
  have f4 := HV.out.frozen 4
  obtain ⟨q, hq⟩ : ∃ q, q = min (k + st) (m - 1) := ⟨_, rfl⟩
  have hqi : min ((k : Int) + (st : Int)) ((m : Int) - 1) = (q : Int) := by rw [hq]; omega
  have hw1 : IntKind.i64.wrap ((k : Int) + (st : Int)) = (k : Int) + (st : Int) := by rw [IntKind.wrap_i64]; omega
  have hw2 : IntKind.i64.wrap ((m : Int) - 1) = (m : Int) - 1 := by rw [IntKind.wrap_i64]; omega
  have HQ := Lib.hid hq
  have FIN : Hid (Went lo hi b ⟨n, m, ls, r, min (k + st) (m - 1), esc, ⟨a, b1, 0, false⟩⟩ w (w2.drew.setCell ⟨b, 4, none⟩ (.int .i64 q))) := Lib.hid (Went.trans HT.out (by
    refine HV.out.went ((But.refl b w2).drew.setCell 4 _) ?_ (HV.out.ok.cursor (r := r) (k := min (k + st) (m - 1)) (by dsimp only; omega) (by dsimp only; omega)) rfl rfl rfl
    have := (HV.out.same (w' := w2.drew) rfl).blk.set 4 (.int .i64 q)
    rw [HQ.out] at this ⊢
    exact this))
  clear hq
  go_wp2_with fail
  go_still_tail 13, (by kernel_rfl)
  change wpList _ _ _ _ _ w2.drew
  go_wp2
  go_end0
  rw [← HST.out]
  exact ⟨rfl, FIN.out⟩
set_option maxHeartbeats 4000000 in
set_option maxRecDepth 100000 in
theorem obey_H0 (lo hi b : Nat) (n m : Nat) (ls : List (List UInt8)) (r k esc a b1 : Nat) (w : World) (H : Vt w lo hi b ⟨n, m, ls, r, k, esc, ⟨a, b1, 0, false⟩⟩) :
    Calls Try.prog 53 #[.pointer (some ⟨b, 0, none⟩), .int .u8 72] w fun e w' => e = .returned (.tuple #[]) ∧ Went lo hi b ⟨n, m, ls, min (max a 1) n - 1, min (max b1 1) m - 1, esc, ⟨a, b1, 0, false⟩⟩ w w' := by
  obtain ⟨h, g, hs, cs, o, H⟩ := H
  have HH := Lib.hid H
  obtain ⟨a0, a1, _, a3, a4, _, a6, a7, a8, a9⟩ := H.ten
  dsimp only at a0 a1 a3 a4 a6 a7 a8 a9
  have hz := H.ok.size
  have hcu := H.ok.cur
  have hpa := H.ok.par
  dsimp only at hz hcu hpa
  clear H
  have hst : ∃ st : Nat, st = max a 1 := ⟨_, rfl⟩
  obtain ⟨st, hst⟩ := hst
  have hsti : max (a : Int) 1 = (st : Int) := by rw [hst]; omega
  have hst1 : 1 ≤ st ∧ st ≤ 9999 := by omega
  have HST := Lib.hid hst
  clear hst
  go_enter Try.func53, Try.ntmps53
  go_wp2_with fail
  go_quiet (fail)
  have HV := Lib.hid ((HH.out.alloc (.cells #[.int .i64 a, .int .i64 b1, .int .i64 0, .bool false] 44)).same (w' := (w.alloc (.cells #[.int .i64 a, .int .i64 b1, .int .i64 0, .bool false] 44)).drewN nq) rfl)
  have HT := Lib.hid (((Tn.refl lo hi w).alloc (.cells #[.int .i64 a, .int .i64 b1, .int .i64 0, .bool false] 44)).drewN nq)
  have HP := Lib.hid (At.same (w' := (w.alloc (.cells #[.int .i64 a, .int .i64 b1, .int .i64 0, .bool false] 44)).drewN nq) (At.new w 44 #[.int .i64 a, .int .i64 b1, .int .i64 0, .bool false]) rfl)
  generalize (w.alloc (.cells #[.int .i64 a, .int .i64 b1, .int .i64 0, .bool false] 44)).drewN nq = w2 at HV HT HP ⊢
  clear a0 a1 a3 a4 a6 a7 a8 a9
  obtain ⟨a0, a1, _, a3, a4, _⟩ := HV.out.ten
  dsimp only at a0 a1 a3 a4
  have f3 := HV.out.frozen 3
  have f4 := HV.out.frozen 4
  obtain ⟨q, hq⟩ : ∃ q, q = min st n - 1 := ⟨_, rfl⟩
  have hqi : min (st : Int) (n : Int) - 1 = (q : Int) := by rw [hq]; omega
  obtain ⟨t, ht⟩ : ∃ t, t = min (max b1 1) m - 1 := ⟨_, rfl⟩
  obtain ⟨u, hu⟩ : ∃ u : Nat, u = max b1 1 := ⟨_, rfl⟩
  have hui : max (b1 : Int) 1 = (u : Int) := by rw [hu]; omega
  have hti : min (u : Int) (m : Int) - 1 = (t : Int) := by rw [ht, hu]; omega
  obtain ⟨y, hy⟩ : ∃ y : Nat, y = min u m := ⟨_, rfl⟩
  have hyi : min (u : Int) (m : Int) = (y : Int) := by rw [hy]; omega
  have hyt : (y : Int) - 1 = (t : Int) := by rw [hy, ht, hu]; omega
  have hq1 : q < n := by omega
  have ht1 : t < m := by omega
  have HQ := Lib.hid hq
  have HTT := Lib.hid ht
  have HU := Lib.hid hu
  have HV3 : Hid (Vb (w2.setCell ⟨b, 3, none⟩ (.int .i64 q)) lo hi b h g ⟨n, m, ls, q, k, esc, ⟨a, b1, 0, false⟩⟩ hs cs o) := Lib.hid (HV.out.turn ((But.refl b w2).setCell 3 _) (HV.out.blk.set 3 (.int .i64 q)) (HV.out.ok.cursor (r := q) (k := k) (by dsimp only; omega) hcu.2) rfl rfl rfl)
  have HT3 : Hid (Tn lo hi w (w2.setCell ⟨b, 3, none⟩ (.int .i64 q))) := Lib.hid (HT.out.trans (Tn.of_but ((But.refl b w2).setCell 3 _) HV.out.bb.1 HV.out.bb.2))
  have hbw : b ≠ w.heap.size := by have := HH.out.sz; have := HH.out.bb; omega
  have HP3 := Lib.hid (HP.out.far (p := ⟨b, 3, none⟩) (Ne.symm hbw) (.int .i64 q))
  clear hq ht hu hy hti
  go_wp2_with fail
  generalize w2.setCell ⟨b, 3, none⟩ (.int .i64 q) = w3 at HV3 HT3 HP3 ⊢
  clear a0 a1 a3 a4 f3 f4
  obtain ⟨_, a1, _⟩ := HV3.out.ten
  dsimp only at a1
  have f4 := HV3.out.frozen 4
  obtain ⟨_, _, _, _, a4, _⟩ := HV3.out.ten
  dsimp only at a4
  have p1 : w3.cell? ⟨w.heap.size, 1, none⟩ = some (.int .i64 b1) := HP3.out.cell 1
  have FIN : Hid (Went lo hi b ⟨n, m, ls, q, t, esc, ⟨a, b1, 0, false⟩⟩ w (w3.drew.setCell ⟨b, 4, none⟩ (.int .i64 t))) := Lib.hid (Went.trans HT3.out (HV3.out.went ((But.refl b w3).drew.setCell 4 _) ((HV3.out.same (w' := w3.drew) rfl).blk.set 4 (.int .i64 t)) (HV3.out.ok.cursor (r := q) (k := t) hq1 ht1) rfl rfl rfl))
  have hyw : IntKind.i64.wrap ((y : Int) - 1) = (t : Int) := by rw [hyt, IntKind.wrap_i64]; omega
  go_still_tail 11, (by kernel_rfl)
  change wpList _ _ _ _ _ w3.drew
  go_wp2
  go_end0
  rw [← HST.out, ← HQ.out, ← HTT.out]
  exact ⟨rfl, FIN.out⟩
set_option maxHeartbeats 4000000 in
set_option maxRecDepth 100000 in
theorem obey_H1 (lo hi b : Nat) (n m : Nat) (ls : List (List UInt8)) (r k esc a b1 : Nat) (w : World) (H : Vt w lo hi b ⟨n, m, ls, r, k, esc, ⟨a, b1, 1, false⟩⟩) :
    Calls Try.prog 53 #[.pointer (some ⟨b, 0, none⟩), .int .u8 72] w fun e w' => e = .returned (.tuple #[]) ∧ Went lo hi b ⟨n, m, ls, min (max a 1) n - 1, min (max b1 1) m - 1, esc, ⟨a, b1, 1, false⟩⟩ w w' := by
  obtain ⟨h, g, hs, cs, o, H⟩ := H
  have HH := Lib.hid H
  obtain ⟨a0, a1, _, a3, a4, _, a6, a7, a8, a9⟩ := H.ten
  dsimp only at a0 a1 a3 a4 a6 a7 a8 a9
  have hz := H.ok.size
  have hcu := H.ok.cur
  have hpa := H.ok.par
  dsimp only at hz hcu hpa
  clear H
  have hst : ∃ st : Nat, st = max a 1 := ⟨_, rfl⟩
  obtain ⟨st, hst⟩ := hst
  have hsti : max (a : Int) 1 = (st : Int) := by rw [hst]; omega
  have hst1 : 1 ≤ st ∧ st ≤ 9999 := by omega
  have HST := Lib.hid hst
  clear hst
  go_enter Try.func53, Try.ntmps53
  go_wp2_with fail
  go_quiet (fail)
  have HV := Lib.hid ((HH.out.alloc (.cells #[.int .i64 a, .int .i64 b1, .int .i64 1, .bool false] 44)).same (w' := (w.alloc (.cells #[.int .i64 a, .int .i64 b1, .int .i64 1, .bool false] 44)).drewN nq) rfl)
  have HT := Lib.hid (((Tn.refl lo hi w).alloc (.cells #[.int .i64 a, .int .i64 b1, .int .i64 1, .bool false] 44)).drewN nq)
  have HP := Lib.hid (At.same (w' := (w.alloc (.cells #[.int .i64 a, .int .i64 b1, .int .i64 1, .bool false] 44)).drewN nq) (At.new w 44 #[.int .i64 a, .int .i64 b1, .int .i64 1, .bool false]) rfl)
  generalize (w.alloc (.cells #[.int .i64 a, .int .i64 b1, .int .i64 1, .bool false] 44)).drewN nq = w2 at HV HT HP ⊢
  clear a0 a1 a3 a4 a6 a7 a8 a9
  obtain ⟨a0, a1, _, a3, a4, _⟩ := HV.out.ten
  dsimp only at a0 a1 a3 a4
  have f3 := HV.out.frozen 3
  have f4 := HV.out.frozen 4
  obtain ⟨q, hq⟩ : ∃ q, q = min st n - 1 := ⟨_, rfl⟩
  have hqi : min (st : Int) (n : Int) - 1 = (q : Int) := by rw [hq]; omega
  obtain ⟨t, ht⟩ : ∃ t, t = min (max b1 1) m - 1 := ⟨_, rfl⟩
  obtain ⟨u, hu⟩ : ∃ u : Nat, u = max b1 1 := ⟨_, rfl⟩
  have hui : max (b1 : Int) 1 = (u : Int) := by rw [hu]; omega
  have hti : min (u : Int) (m : Int) - 1 = (t : Int) := by rw [ht, hu]; omega
  obtain ⟨y, hy⟩ : ∃ y : Nat, y = min u m := ⟨_, rfl⟩
  have hyi : min (u : Int) (m : Int) = (y : Int) := by rw [hy]; omega
  have hyt : (y : Int) - 1 = (t : Int) := by rw [hy, ht, hu]; omega
  have hq1 : q < n := by omega
  have ht1 : t < m := by omega
  have HQ := Lib.hid hq
  have HTT := Lib.hid ht
  have HU := Lib.hid hu
  have HV3 : Hid (Vb (w2.setCell ⟨b, 3, none⟩ (.int .i64 q)) lo hi b h g ⟨n, m, ls, q, k, esc, ⟨a, b1, 1, false⟩⟩ hs cs o) := Lib.hid (HV.out.turn ((But.refl b w2).setCell 3 _) (HV.out.blk.set 3 (.int .i64 q)) (HV.out.ok.cursor (r := q) (k := k) (by dsimp only; omega) hcu.2) rfl rfl rfl)
  have HT3 : Hid (Tn lo hi w (w2.setCell ⟨b, 3, none⟩ (.int .i64 q))) := Lib.hid (HT.out.trans (Tn.of_but ((But.refl b w2).setCell 3 _) HV.out.bb.1 HV.out.bb.2))
  have hbw : b ≠ w.heap.size := by have := HH.out.sz; have := HH.out.bb; omega
  have HP3 := Lib.hid (HP.out.far (p := ⟨b, 3, none⟩) (Ne.symm hbw) (.int .i64 q))
  clear hq ht hu hy hti
  go_wp2_with fail
  generalize w2.setCell ⟨b, 3, none⟩ (.int .i64 q) = w3 at HV3 HT3 HP3 ⊢
  clear a0 a1 a3 a4 f3 f4
  obtain ⟨_, a1, _⟩ := HV3.out.ten
  dsimp only at a1
  have f4 := HV3.out.frozen 4
  obtain ⟨_, _, _, _, a4, _⟩ := HV3.out.ten
  dsimp only at a4
  have p1 : w3.cell? ⟨w.heap.size, 1, none⟩ = some (.int .i64 b1) := HP3.out.cell 1
  have FIN : Hid (Went lo hi b ⟨n, m, ls, q, t, esc, ⟨a, b1, 1, false⟩⟩ w (w3.drew.setCell ⟨b, 4, none⟩ (.int .i64 t))) := Lib.hid (Went.trans HT3.out (HV3.out.went ((But.refl b w3).drew.setCell 4 _) ((HV3.out.same (w' := w3.drew) rfl).blk.set 4 (.int .i64 t)) (HV3.out.ok.cursor (r := q) (k := t) hq1 ht1) rfl rfl rfl))
  have hyw : IntKind.i64.wrap ((y : Int) - 1) = (t : Int) := by rw [hyt, IntKind.wrap_i64]; omega
  go_still_tail 11, (by kernel_rfl)
  change wpList _ _ _ _ _ w3.drew
  go_wp2
  go_end0
  rw [← HST.out, ← HQ.out, ← HTT.out]
  exact ⟨rfl, FIN.out⟩
set_option maxHeartbeats 4000000 in
set_option maxRecDepth 100000 in
theorem obey_J0 (lo hi b : Nat) (n m : Nat) (ls : List (List UInt8)) (r k esc b1 : Nat) (w : World) (H : Vt w lo hi b ⟨n, m, ls, r, k, esc, ⟨0, b1, 0, false⟩⟩) :
    Calls Try.prog 53 #[.pointer (some ⟨b, 0, none⟩), .int .u8 74] w fun e w' => e = .returned (.tuple #[]) ∧ Went lo hi b ⟨n, m, wipeIf (pJ r k) ls, r, k, esc, ⟨0, b1, 0, false⟩⟩ w w' := by
  obtain ⟨h, g, hs, cs, o, H⟩ := H
  have HH := Lib.hid H
  obtain ⟨a0, a1, _, a3, a4, _, a6, a7, a8, a9⟩ := H.ten
  dsimp only at a0 a1 a3 a4 a6 a7 a8 a9
  have hz := H.ok.size
  have hcu := H.ok.cur
  have hpa := H.ok.par
  dsimp only at hz hcu hpa
  clear H
  have hst : ∃ st : Nat, st = max 0 1 := ⟨_, rfl⟩
  obtain ⟨st, hst⟩ := hst
  have hsti : max (0 : Int) 1 = (st : Int) := by rw [hst]; rfl
  have hst1 : 1 ≤ st ∧ st ≤ 9999 := by omega
  have HST := Lib.hid hst
  clear hst
  go_enter Try.func53, Try.ntmps53
  go_wp2_with fail
  go_quiet (fail)
  have HV := Lib.hid ((HH.out.alloc (.cells #[.int .i64 0, .int .i64 b1, .int .i64 0, .bool false] 44)).same (w' := (w.alloc (.cells #[.int .i64 0, .int .i64 b1, .int .i64 0, .bool false] 44)).drewN nq) rfl)
  have HT := Lib.hid (((Tn.refl lo hi w).alloc (.cells #[.int .i64 0, .int .i64 b1, .int .i64 0, .bool false] 44)).drewN nq)
  have HP := Lib.hid (At.same (w' := (w.alloc (.cells #[.int .i64 0, .int .i64 b1, .int .i64 0, .bool false] 44)).drewN nq) (At.new w 44 #[.int .i64 0, .int .i64 b1, .int .i64 0, .bool false]) rfl)
  generalize (w.alloc (.cells #[.int .i64 0, .int .i64 b1, .int .i64 0, .bool false] 44)).drewN nq = w2 at HV HT HP ⊢
  clear a0 a1 a3 a4 a6 a7 a8 a9
  obtain ⟨a0, a1, _, a3, a4, _⟩ := HV.out.ten
  dsimp only at a0 a1 a3 a4
  have f3 := HV.out.frozen 3
  have f4 := HV.out.frozen 4
  have C := Lib.hid (wipeScreen_0 lo hi b _ w2 HV.out.vt)
  go_wp2_with fail
  go_at_call 56
  refine C.out.mono ?_
  rintro e w' ⟨rfl, hW⟩
  have HW := Lib.hid hW
  clear hW
  go_wp2
  go_end0
  exact ⟨rfl, Went.trans HT.out HW.out⟩
set_option maxHeartbeats 4000000 in
set_option maxRecDepth 100000 in
theorem obey_J2 (lo hi b : Nat) (n m : Nat) (ls : List (List UInt8)) (r k esc b1 : Nat) (w : World) (H : Vt w lo hi b ⟨n, m, ls, r, k, esc, ⟨2, b1, 0, false⟩⟩) :
    Calls Try.prog 53 #[.pointer (some ⟨b, 0, none⟩), .int .u8 74] w fun e w' => e = .returned (.tuple #[]) ∧ Went lo hi b ⟨n, m, wipeIf pA ls, r, k, esc, ⟨2, b1, 0, false⟩⟩ w w' := by
  obtain ⟨h, g, hs, cs, o, H⟩ := H
  have HH := Lib.hid H
  obtain ⟨a0, a1, _, a3, a4, _, a6, a7, a8, a9⟩ := H.ten
  dsimp only at a0 a1 a3 a4 a6 a7 a8 a9
  have hz := H.ok.size
  have hcu := H.ok.cur
  have hpa := H.ok.par
  dsimp only at hz hcu hpa
  clear H
  have hst : ∃ st : Nat, st = max 2 1 := ⟨_, rfl⟩
  obtain ⟨st, hst⟩ := hst
  have hsti : max (2 : Int) 1 = (st : Int) := by rw [hst]; rfl
  have hst1 : 1 ≤ st ∧ st ≤ 9999 := by omega
  have HST := Lib.hid hst
  clear hst
  go_enter Try.func53, Try.ntmps53
  go_wp2_with fail
  go_quiet (fail)
  have HV := Lib.hid ((HH.out.alloc (.cells #[.int .i64 2, .int .i64 b1, .int .i64 0, .bool false] 44)).same (w' := (w.alloc (.cells #[.int .i64 2, .int .i64 b1, .int .i64 0, .bool false] 44)).drewN nq) rfl)
  have HT := Lib.hid (((Tn.refl lo hi w).alloc (.cells #[.int .i64 2, .int .i64 b1, .int .i64 0, .bool false] 44)).drewN nq)
  have HP := Lib.hid (At.same (w' := (w.alloc (.cells #[.int .i64 2, .int .i64 b1, .int .i64 0, .bool false] 44)).drewN nq) (At.new w 44 #[.int .i64 2, .int .i64 b1, .int .i64 0, .bool false]) rfl)
  generalize (w.alloc (.cells #[.int .i64 2, .int .i64 b1, .int .i64 0, .bool false] 44)).drewN nq = w2 at HV HT HP ⊢
  clear a0 a1 a3 a4 a6 a7 a8 a9
  obtain ⟨a0, a1, _, a3, a4, _⟩ := HV.out.ten
  dsimp only at a0 a1 a3 a4
  have f3 := HV.out.frozen 3
  have f4 := HV.out.frozen 4
  have C := Lib.hid (wipeScreen_2 lo hi b _ w2 HV.out.vt)
  go_wp2_with fail
  go_at_call 56
  refine C.out.mono ?_
  rintro e w' ⟨rfl, hW⟩
  have HW := Lib.hid hW
  clear hW
  go_wp2
  go_end0
  exact ⟨rfl, Went.trans HT.out HW.out⟩
set_option maxHeartbeats 4000000 in
set_option maxRecDepth 100000 in
theorem obey_Jx (lo hi b : Nat) (n m : Nat) (ls : List (List UInt8)) (r k esc a b1 : Nat) (h0 : a ≠ 0) (h2 : a ≠ 2) (w : World) (H : Vt w lo hi b ⟨n, m, ls, r, k, esc, ⟨a, b1, 0, false⟩⟩) :
    Calls Try.prog 53 #[.pointer (some ⟨b, 0, none⟩), .int .u8 74] w fun e w' => e = .returned (.tuple #[]) ∧ Went lo hi b ⟨n, m, ls, r, k, esc, ⟨a, b1, 0, false⟩⟩ w w' := by
  obtain ⟨h, g, hs, cs, o, H⟩ := H
  have HH := Lib.hid H
  obtain ⟨a0, a1, _, a3, a4, _, a6, a7, a8, a9⟩ := H.ten
  dsimp only at a0 a1 a3 a4 a6 a7 a8 a9
  have hz := H.ok.size
  have hcu := H.ok.cur
  have hpa := H.ok.par
  dsimp only at hz hcu hpa
  clear H
  have hst : ∃ st : Nat, st = max a 1 := ⟨_, rfl⟩
  obtain ⟨st, hst⟩ := hst
  have hsti : max (a : Int) 1 = (st : Int) := by rw [hst]; omega
  have hst1 : 1 ≤ st ∧ st ≤ 9999 := by omega
  have HST := Lib.hid hst
  clear hst
  go_enter Try.func53, Try.ntmps53
  go_wp2_with fail
  go_quiet (fail)
  have HV := Lib.hid ((HH.out.alloc (.cells #[.int .i64 a, .int .i64 b1, .int .i64 0, .bool false] 44)).same (w' := (w.alloc (.cells #[.int .i64 a, .int .i64 b1, .int .i64 0, .bool false] 44)).drewN nq) rfl)
  have HT := Lib.hid (((Tn.refl lo hi w).alloc (.cells #[.int .i64 a, .int .i64 b1, .int .i64 0, .bool false] 44)).drewN nq)
  have HP := Lib.hid (At.same (w' := (w.alloc (.cells #[.int .i64 a, .int .i64 b1, .int .i64 0, .bool false] 44)).drewN nq) (At.new w 44 #[.int .i64 a, .int .i64 b1, .int .i64 0, .bool false]) rfl)
  generalize (w.alloc (.cells #[.int .i64 a, .int .i64 b1, .int .i64 0, .bool false] 44)).drewN nq = w2 at HV HT HP ⊢
  clear a0 a1 a3 a4 a6 a7 a8 a9
  obtain ⟨a0, a1, _, a3, a4, _⟩ := HV.out.ten
  dsimp only at a0 a1 a3 a4
  have f3 := HV.out.frozen 3
  have f4 := HV.out.frozen 4
  have C := Lib.hid (wipeScreen_x b w2 a (by omega) (by omega))
  go_wp2_with fail
  go_at_call 56
  refine C.out.mono ?_
  rintro e w' ⟨rfl, rfl⟩
  go_wp2
  go_end0
  exact ⟨rfl, HV.out.vt, HT.out⟩
set_option maxHeartbeats 4000000 in
set_option maxRecDepth 100000 in
theorem obey_K0 (lo hi b : Nat) (n m : Nat) (ls : List (List UInt8)) (r k esc b1 : Nat) (w : World) (H : Vt w lo hi b ⟨n, m, ls, r, k, esc, ⟨0, b1, 0, false⟩⟩) :
    Calls Try.prog 53 #[.pointer (some ⟨b, 0, none⟩), .int .u8 75] w fun e w' => e = .returned (.tuple #[]) ∧ Went lo hi b ⟨n, m, wipeIf (p0 r k) ls, r, k, esc, ⟨0, b1, 0, false⟩⟩ w w' := by
  obtain ⟨h, g, hs, cs, o, H⟩ := H
  have HH := Lib.hid H
  obtain ⟨a0, a1, _, a3, a4, _, a6, a7, a8, a9⟩ := H.ten
  dsimp only at a0 a1 a3 a4 a6 a7 a8 a9
  have hz := H.ok.size
  have hcu := H.ok.cur
  have hpa := H.ok.par
  dsimp only at hz hcu hpa
  clear H
  have hst : ∃ st : Nat, st = max 0 1 := ⟨_, rfl⟩
  obtain ⟨st, hst⟩ := hst
  have hsti : max (0 : Int) 1 = (st : Int) := by rw [hst]; rfl
  have hst1 : 1 ≤ st ∧ st ≤ 9999 := by omega
  have HST := Lib.hid hst
  clear hst
  go_enter Try.func53, Try.ntmps53
  go_wp2_with fail
  go_quiet (fail)
  have HV := Lib.hid ((HH.out.alloc (.cells #[.int .i64 0, .int .i64 b1, .int .i64 0, .bool false] 44)).same (w' := (w.alloc (.cells #[.int .i64 0, .int .i64 b1, .int .i64 0, .bool false] 44)).drewN nq) rfl)
  have HT := Lib.hid (((Tn.refl lo hi w).alloc (.cells #[.int .i64 0, .int .i64 b1, .int .i64 0, .bool false] 44)).drewN nq)
  have HP := Lib.hid (At.same (w' := (w.alloc (.cells #[.int .i64 0, .int .i64 b1, .int .i64 0, .bool false] 44)).drewN nq) (At.new w 44 #[.int .i64 0, .int .i64 b1, .int .i64 0, .bool false]) rfl)
  generalize (w.alloc (.cells #[.int .i64 0, .int .i64 b1, .int .i64 0, .bool false] 44)).drewN nq = w2 at HV HT HP ⊢
  clear a0 a1 a3 a4 a6 a7 a8 a9
  obtain ⟨a0, a1, _, a3, a4, _⟩ := HV.out.ten
  dsimp only at a0 a1 a3 a4
  have f3 := HV.out.frozen 3
  have f4 := HV.out.frozen 4
  have C := Lib.hid (wipeRow_0 lo hi b h g _ hs cs o w2 HV.out)
  go_wp2_with fail
  go_at_call 57
  refine C.out.mono ?_
  rintro e w' ⟨rfl, hW⟩
  have HW := Lib.hid hW
  clear hW
  go_wp2
  go_end0
  exact ⟨rfl, Went.trans HT.out HW.out⟩
set_option maxHeartbeats 4000000 in
set_option maxRecDepth 100000 in
theorem obey_K2 (lo hi b : Nat) (n m : Nat) (ls : List (List UInt8)) (r k esc b1 : Nat) (w : World) (H : Vt w lo hi b ⟨n, m, ls, r, k, esc, ⟨2, b1, 0, false⟩⟩) :
    Calls Try.prog 53 #[.pointer (some ⟨b, 0, none⟩), .int .u8 75] w fun e w' => e = .returned (.tuple #[]) ∧ Went lo hi b ⟨n, m, wipeIf (pK r) ls, r, k, esc, ⟨2, b1, 0, false⟩⟩ w w' := by
  obtain ⟨h, g, hs, cs, o, H⟩ := H
  have HH := Lib.hid H
  obtain ⟨a0, a1, _, a3, a4, _, a6, a7, a8, a9⟩ := H.ten
  dsimp only at a0 a1 a3 a4 a6 a7 a8 a9
  have hz := H.ok.size
  have hcu := H.ok.cur
  have hpa := H.ok.par
  dsimp only at hz hcu hpa
  clear H
  have hst : ∃ st : Nat, st = max 2 1 := ⟨_, rfl⟩
  obtain ⟨st, hst⟩ := hst
  have hsti : max (2 : Int) 1 = (st : Int) := by rw [hst]; rfl
  have hst1 : 1 ≤ st ∧ st ≤ 9999 := by omega
  have HST := Lib.hid hst
  clear hst
  go_enter Try.func53, Try.ntmps53
  go_wp2_with fail
  go_quiet (fail)
  have HV := Lib.hid ((HH.out.alloc (.cells #[.int .i64 2, .int .i64 b1, .int .i64 0, .bool false] 44)).same (w' := (w.alloc (.cells #[.int .i64 2, .int .i64 b1, .int .i64 0, .bool false] 44)).drewN nq) rfl)
  have HT := Lib.hid (((Tn.refl lo hi w).alloc (.cells #[.int .i64 2, .int .i64 b1, .int .i64 0, .bool false] 44)).drewN nq)
  have HP := Lib.hid (At.same (w' := (w.alloc (.cells #[.int .i64 2, .int .i64 b1, .int .i64 0, .bool false] 44)).drewN nq) (At.new w 44 #[.int .i64 2, .int .i64 b1, .int .i64 0, .bool false]) rfl)
  generalize (w.alloc (.cells #[.int .i64 2, .int .i64 b1, .int .i64 0, .bool false] 44)).drewN nq = w2 at HV HT HP ⊢
  clear a0 a1 a3 a4 a6 a7 a8 a9
  obtain ⟨a0, a1, _, a3, a4, _⟩ := HV.out.ten
  dsimp only at a0 a1 a3 a4
  have f3 := HV.out.frozen 3
  have f4 := HV.out.frozen 4
  have C := Lib.hid (wipeRow_2 lo hi b h g _ hs cs o w2 HV.out)
  go_wp2_with fail
  go_at_call 57
  refine C.out.mono ?_
  rintro e w' ⟨rfl, hW⟩
  have HW := Lib.hid hW
  clear hW
  go_wp2
  go_end0
  exact ⟨rfl, Went.trans HT.out HW.out⟩
set_option maxHeartbeats 4000000 in
set_option maxRecDepth 100000 in
theorem obey_Kx (lo hi b : Nat) (n m : Nat) (ls : List (List UInt8)) (r k esc a b1 : Nat) (h0 : a ≠ 0) (h2 : a ≠ 2) (w : World) (H : Vt w lo hi b ⟨n, m, ls, r, k, esc, ⟨a, b1, 0, false⟩⟩) :
    Calls Try.prog 53 #[.pointer (some ⟨b, 0, none⟩), .int .u8 75] w fun e w' => e = .returned (.tuple #[]) ∧ Went lo hi b ⟨n, m, ls, r, k, esc, ⟨a, b1, 0, false⟩⟩ w w' := by
  obtain ⟨h, g, hs, cs, o, H⟩ := H
  have HH := Lib.hid H
  obtain ⟨a0, a1, _, a3, a4, _, a6, a7, a8, a9⟩ := H.ten
  dsimp only at a0 a1 a3 a4 a6 a7 a8 a9
  have hz := H.ok.size
  have hcu := H.ok.cur
  have hpa := H.ok.par
  dsimp only at hz hcu hpa
  clear H
  have hst : ∃ st : Nat, st = max a 1 := ⟨_, rfl⟩
  obtain ⟨st, hst⟩ := hst
  have hsti : max (a : Int) 1 = (st : Int) := by rw [hst]; omega
  have hst1 : 1 ≤ st ∧ st ≤ 9999 := by omega
  have HST := Lib.hid hst
  clear hst
  go_enter Try.func53, Try.ntmps53
  go_wp2_with fail
  go_quiet (fail)
  have HV := Lib.hid ((HH.out.alloc (.cells #[.int .i64 a, .int .i64 b1, .int .i64 0, .bool false] 44)).same (w' := (w.alloc (.cells #[.int .i64 a, .int .i64 b1, .int .i64 0, .bool false] 44)).drewN nq) rfl)
  have HT := Lib.hid (((Tn.refl lo hi w).alloc (.cells #[.int .i64 a, .int .i64 b1, .int .i64 0, .bool false] 44)).drewN nq)
  have HP := Lib.hid (At.same (w' := (w.alloc (.cells #[.int .i64 a, .int .i64 b1, .int .i64 0, .bool false] 44)).drewN nq) (At.new w 44 #[.int .i64 a, .int .i64 b1, .int .i64 0, .bool false]) rfl)
  generalize (w.alloc (.cells #[.int .i64 a, .int .i64 b1, .int .i64 0, .bool false] 44)).drewN nq = w2 at HV HT HP ⊢
  clear a0 a1 a3 a4 a6 a7 a8 a9
  obtain ⟨a0, a1, _, a3, a4, _⟩ := HV.out.ten
  dsimp only at a0 a1 a3 a4
  have f3 := HV.out.frozen 3
  have f4 := HV.out.frozen 4
  have C := Lib.hid (wipeRow_x lo hi b h g _ hs cs o w2 HV.out a (by omega) (by omega))
  go_wp2_with fail
  go_at_call 57
  refine C.out.mono ?_
  rintro e w' ⟨rfl, hW⟩
  have HW := Lib.hid hW
  clear hW
  go_wp2
  go_end0
  exact ⟨rfl, Went.trans HT.out HW.out⟩
set_option maxHeartbeats 4000000 in
set_option maxRecDepth 100000 in
theorem obey_other (lo hi b : Nat) (n m : Nat) (ls : List (List UInt8)) (r k esc a b1 : Nat) (x : Nat) (e1 : x ≠ 72) (e2 : x ≠ 65) (e3 : x ≠ 66) (e4 : x ≠ 67) (e5 : x ≠ 68) (e6 : x ≠ 74) (e7 : x ≠ 75) (w : World) (H : Vt w lo hi b ⟨n, m, ls, r, k, esc, ⟨a, b1, 0, false⟩⟩) :
    Calls Try.prog 53 #[.pointer (some ⟨b, 0, none⟩), .int .u8 (x : Int)] w fun e w' => e = .returned (.tuple #[]) ∧ Went lo hi b ⟨n, m, ls, r, k, esc, ⟨a, b1, 0, false⟩⟩ w w' := by
  obtain ⟨h, g, hs, cs, o, H⟩ := H
  have HH := Lib.hid H
  obtain ⟨a0, a1, _, a3, a4, _, a6, a7, a8, a9⟩ := H.ten
  dsimp only at a0 a1 a3 a4 a6 a7 a8 a9
  have hz := H.ok.size
  have hcu := H.ok.cur
  have hpa := H.ok.par
  dsimp only at hz hcu hpa
  clear H
  have q0 : ((x : Int) == 72) = false := by simp; omega
  have q1 : ((x : Int) == 65) = false := by simp; omega
  have q2 : ((x : Int) == 66) = false := by simp; omega
  have q3 : ((x : Int) == 67) = false := by simp; omega
  have q4 : ((x : Int) == 68) = false := by simp; omega
  have q5 : ((x : Int) == 74) = false := by simp; omega
  have q6 : ((x : Int) == 75) = false := by simp; omega
  clear e1 e2 e3 e4 e5 e6 e7
  have hst : ∃ st : Nat, st = max a 1 := ⟨_, rfl⟩
  obtain ⟨st, hst⟩ := hst
  have hsti : max (a : Int) 1 = (st : Int) := by rw [hst]; omega
  have hst1 : 1 ≤ st ∧ st ≤ 9999 := by omega
  have HST := Lib.hid hst
  clear hst
  go_enter Try.func53, Try.ntmps53
  go_wp2_with fail
  go_quiet (fail)
  have HV := Lib.hid ((HH.out.alloc (.cells #[.int .i64 a, .int .i64 b1, .int .i64 0, .bool false] 44)).same (w' := (w.alloc (.cells #[.int .i64 a, .int .i64 b1, .int .i64 0, .bool false] 44)).drewN nq) rfl)
  have HT := Lib.hid (((Tn.refl lo hi w).alloc (.cells #[.int .i64 a, .int .i64 b1, .int .i64 0, .bool false] 44)).drewN nq)
  have HP := Lib.hid (At.same (w' := (w.alloc (.cells #[.int .i64 a, .int .i64 b1, .int .i64 0, .bool false] 44)).drewN nq) (At.new w 44 #[.int .i64 a, .int .i64 b1, .int .i64 0, .bool false]) rfl)
  generalize (w.alloc (.cells #[.int .i64 a, .int .i64 b1, .int .i64 0, .bool false] 44)).drewN nq = w2 at HV HT HP ⊢
  clear a0 a1 a3 a4 a6 a7 a8 a9
  obtain ⟨a0, a1, _, a3, a4, _⟩ := HV.out.ten
  dsimp only at a0 a1 a3 a4
  have f3 := HV.out.frozen 3
  have f4 := HV.out.frozen 4
  go_wp2
  go_end0
  exact ⟨rfl, HV.out.vt, HT.out⟩
theorem obey_is (lo hi b : Nat) (s : Ts) (c : UInt8) (w : World) (H : Vt w lo hi b s) :
    Calls Try.prog 53 #[.pointer (some ⟨b, 0, none⟩), .int .u8 (c.toNat : Int)] w fun e w' => e = .returned (.tuple #[]) ∧ Went lo hi b (obey s c) w w' := by
  obtain ⟨n, m, ls, r, k, esc, ⟨a, b1, last, bad⟩⟩ := s
  cases bad with
  | true => rw [obey_bad]; exact obey_x1 lo hi b n m ls r k esc a b1 last c.toNat w H
  | false =>
    have hl : last ≤ 1 := H.ok.par.2.2
    by_cases h72 : c.toNat = 72
    · rw [obey_H h72, h72]
      by_cases h0 : last = 0
      · subst h0; exact obey_H0 lo hi b n m ls r k esc a b1 w H
      · obtain rfl : last = 1 := by omega
        exact obey_H1 lo hi b n m ls r k esc a b1 w H
    · by_cases h0 : last = 0
      · subst h0
        rw [obey_0 h72]
        by_cases h65 : c.toNat = 65
        · rw [if_pos h65, h65]; exact obey_A lo hi b n m ls r k esc a b1 w H
        rw [if_neg h65]
        by_cases h66 : c.toNat = 66
        · rw [if_pos h66, h66]; exact obey_B lo hi b n m ls r k esc a b1 w H
        rw [if_neg h66]
        by_cases h67 : c.toNat = 67
        · rw [if_pos h67, h67]; exact obey_C lo hi b n m ls r k esc a b1 w H
        rw [if_neg h67]
        by_cases h68 : c.toNat = 68
        · rw [if_pos h68, h68]; exact obey_D lo hi b n m ls r k esc a b1 w H
        rw [if_neg h68]
        by_cases h74 : c.toNat = 74
        · rw [if_pos h74, h74]
          by_cases a0 : a = 0
          · subst a0; rw [if_pos rfl]; exact obey_J0 lo hi b n m ls r k esc b1 w H
          rw [if_neg a0]
          by_cases a2 : a = 2
          · subst a2; rw [if_pos rfl]; exact obey_J2 lo hi b n m ls r k esc b1 w H
          rw [if_neg a2]
          exact obey_Jx lo hi b n m ls r k esc a b1 a0 a2 w H
        rw [if_neg h74]
        by_cases h75 : c.toNat = 75
        · rw [if_pos h75, h75]
          by_cases a0 : a = 0
          · subst a0; rw [if_pos rfl]; exact obey_K0 lo hi b n m ls r k esc b1 w H
          rw [if_neg a0]
          by_cases a2 : a = 2
          · subst a2; rw [if_pos rfl]; exact obey_K2 lo hi b n m ls r k esc b1 w H
          rw [if_neg a2]
          exact obey_Kx lo hi b n m ls r k esc a b1 a0 a2 w H
        rw [if_neg h75]
        exact obey_other lo hi b n m ls r k esc a b1 c.toNat h72 h65 h66 h67 h68 h74 h75 w H
      · obtain rfl : last = 1 := by omega
        rw [obey_last (by omega) h72]
        exact obey_x2 lo hi b n m ls r k esc a b1 c.toNat h72 w H
end Go.Proofs.Yteekihhngjbjgaa.vtt
