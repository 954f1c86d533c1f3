/- Terminals: an escape's parameters, byte by byte. -/
import Derived.Test.YteekihhngjbjgaaVttDown
namespace Go.Proofs.Yteekihhngjbjgaa.vtt
open Go.RowKit Go.Lib Go.Proofs.Yteekihhngjbjgaa.grd
set_option linter.unusedVariables false
set_option linter.unusedSimpArgs false
set_option linter.unnecessarySimpa false
set_option linter.unusedSectionVars false

set_option maxHeartbeats 4000000 in
set_option maxRecDepth 100000 in
theorem take_is (lo hi b : Nat) (s : Ts) (c : UInt8) (w : World) (H : Vt w lo hi b s) :
    Calls Try.prog 52 #[.pointer (some ⟨b, 6, none⟩), .int .u8 (c.toNat : Int)] w fun e w' => e = .returned (.tuple #[]) ∧ Went lo hi b { s with p := take s.p c } w w' := by
  obtain ⟨h, g, hs, cs, o, H⟩ := H
  obtain ⟨n, m, ls, r, k, esc, ⟨a, b1, last, bad⟩⟩ := s
  have HH := Lib.hid H
  obtain ⟨_, _, _, _, _, _, a6, a7, a8, a9⟩ := H.ten
  have f6 := H.frozen 6
  have f7 := H.frozen 7
  have f8 := H.frozen 8
  have f9 := H.frozen 9
  have hp := H.ok.par
  dsimp only at hp a6 a7 a8 a9
  obtain ⟨hpa, hpb, hpl⟩ := hp
  have hx256 : c.toNat < 256 := c.toNat_lt
  have OK : Hid (Ok ⟨n, m, ls, r, k, esc, take ⟨a, b1, last, bad⟩ c⟩) := Lib.hid ⟨H.ok.size, H.ok.len, H.ok.row, H.ok.cur, take_ok _ _ H.ok.par, H.ok.esc⟩
  have FIN : Hid (∀ (w2 : World) (i : Nat) (v : Value) (p' : Pm), But b w w2 → At (w2.setCell ⟨b, i, none⟩ v) b 46 (vc ⟨n, m, ls, r, k, esc, p'⟩ h) → take ⟨a, b1, last, bad⟩ c = p' → Went lo hi b ⟨n, m, ls, r, k, esc, take ⟨a, b1, last, bad⟩ c⟩ w (w2.setCell ⟨b, i, none⟩ v)) := Lib.hid fun w2 i v p' hB hA e => by
    refine HH.out.went (hB.setCell i v) ?_ OK.out rfl rfl rfl
    rw [e]; exact hA
  have BK : Hid (∀ p, At (w.drewN p) b 46 (vc ⟨n, m, ls, r, k, esc, ⟨a, b1, last, bad⟩⟩ h)) := Lib.hid fun p => (HH.out.same (w' := w.drewN p) rfl).blk
  clear H OK
  have HT : Hid (∀ p, take ⟨a, b1, last, bad⟩ c = p → take ⟨a, b1, last, bad⟩ c = p) := Lib.hid fun _ h => h
  obtain ⟨x, hx⟩ : ∃ x, x = c.toNat := ⟨_, rfl⟩
  rw [← hx] at hx256 ⊢
  have HX := Lib.hid hx
  clear hx
  by_cases hd : 48 ≤ x ∧ x ≤ 57
  · obtain ⟨hd1, hd2⟩ := hd
    by_cases hl : last = 0
    · subst hl
      obtain ⟨q, hq⟩ : ∃ q, q = num10 a (x - 48) := ⟨_, rfl⟩
      have hqi : min ((a : Int) * 10 + ((x : Int) - 48)) 9999 = (q : Int) := by rw [hq]; unfold num10; omega
      have F : Hid (∀ p, Went lo hi b ⟨n, m, ls, r, k, esc, take ⟨a, b1, 0, bad⟩ c⟩ w ((w.drewN p).setCell ⟨b, 6, none⟩ (.int .i64 q))) := Lib.hid fun p => FIN.out _ _ _ ⟨q, b1, 0, bad⟩ ((But.refl b w).drewN p) ((BK.out p).set 6 (.int .i64 q)) (by unfold take; rw [if_pos (by rw [← HX.out]; exact ⟨hd1, hd2⟩), if_pos rfl, hq, HX.out])
      clear hq
      go_enter Try.func52, Try.ntmps52
      go_wp2_with fail
      go_quiet (fail)
      go_wp2
      go_end0
      exact ⟨rfl, F.out _⟩
    · have hl1 : last = 1 := by omega
      subst hl1
      obtain ⟨q, hq⟩ : ∃ q, q = num10 b1 (x - 48) := ⟨_, rfl⟩
      have hqi : min ((b1 : Int) * 10 + ((x : Int) - 48)) 9999 = (q : Int) := by rw [hq]; unfold num10; omega
      have F : Hid (∀ p, Went lo hi b ⟨n, m, ls, r, k, esc, take ⟨a, b1, 1, bad⟩ c⟩ w ((w.drewN p).setCell ⟨b, 7, none⟩ (.int .i64 q))) := Lib.hid fun p => FIN.out _ _ _ ⟨a, q, 1, bad⟩ ((But.refl b w).drewN p) ((BK.out p).set 7 (.int .i64 q)) (by unfold take; rw [if_pos (by rw [← HX.out]; exact ⟨hd1, hd2⟩), if_neg (show ¬ (1 = 0) by omega), hq, HX.out])
      clear hq
      go_enter Try.func52, Try.ntmps52
      go_wp2_with fail
      go_quiet (fail)
      go_wp2
      go_end0
      exact ⟨rfl, F.out _⟩
  · have HD := Lib.hid hd
    by_cases hs : x = 59 ∧ last = 0
    · obtain ⟨rfl, rfl⟩ := hs
      have F : Hid (Went lo hi b ⟨n, m, ls, r, k, esc, take ⟨a, b1, 0, bad⟩ c⟩ w (w.setCell ⟨b, 8, none⟩ (.int .i64 1))) := Lib.hid (FIN.out _ _ _ ⟨a, b1, 1, bad⟩ (But.refl b w) (HH.out.blk.set 8 (.int .i64 1)) (by unfold take; rw [if_neg (by rw [← HX.out]; exact HD.out), if_pos ⟨HX.out.symm, rfl⟩]))
      clear hd
      go_enter Try.func52, Try.ntmps52
      go_wp2
      go_end0
      exact ⟨rfl, F.out⟩
    · have F : Hid (Went lo hi b ⟨n, m, ls, r, k, esc, take ⟨a, b1, last, bad⟩ c⟩ w (w.setCell ⟨b, 9, none⟩ (.bool true))) := Lib.hid (FIN.out _ _ _ ⟨a, b1, last, true⟩ (But.refl b w) (HH.out.blk.set 9 (.bool true)) (by unfold take; rw [if_neg (by rw [← HX.out]; exact HD.out), if_neg (by rw [← HX.out]; exact hs)]))
      by_cases h59 : x = 59
      · subst h59
        have hl1 : last = 1 := by omega
        subst hl1
        clear hd hs
        go_enter Try.func52, Try.ntmps52
        go_wp2
        go_end0
        exact ⟨rfl, F.out⟩
      · have e59 : ((x : Int) == 59) = false := by simp; omega
        by_cases h48 : 48 ≤ x
        · have h57 : 57 < x := by omega
          have d2 : decide ((x : Int) ≤ 57) = false := by simp; omega
          clear hd hs h59
          go_enter Try.func52, Try.ntmps52
          go_wp2
          go_end0
          exact ⟨rfl, F.out⟩
        · have d1 : decide ((48 : Int) ≤ (x : Int)) = false := by simp; omega
          clear hd hs h59
          go_enter Try.func52, Try.ntmps52
          go_wp2
          go_end0
          exact ⟨rfl, F.out⟩
end Go.Proofs.Yteekihhngjbjgaa.vtt
