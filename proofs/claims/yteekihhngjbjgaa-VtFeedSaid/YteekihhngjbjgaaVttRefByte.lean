/- Terminals: the document's byte, and its Feed. -/
import Derived.Test.YteekihhngjbjgaaVttRefCommand
import Derived.Test.YteekihhngjbjgaaVttRefScroll
import Derived.Test.YteekihhngjbjgaaVttLawKit
import Derived.RegionTactic
namespace Go.Proofs.Yteekihhngjbjgaa.vtt
open Go.RowKit Go.Lib Go.Proofs.Yteekihhngjbjgaa.grd
set_option linter.unusedVariables false
set_option linter.unusedSimpArgs false
set_option linter.unnecessarySimpa false
set_option linter.unusedSectionVars false

theorem conv1 (W : World) (b : UInt8) : (convert 39 9 (.slice (some ⟨W.heap.size, 0, none⟩) 1 1)).run Try.prog (W.alloc (.cells #[.int .u8 (b.toNat : Int)] 5)) = .ok (.string (B [b])) (W.alloc (.cells #[.int .u8 (b.toNat : Int)] 5)) :=
  run_convert_bytes_back (P := Try.prog) _ 39 9 5 ⟨W.heap.size, 0, none⟩ 1 [b] Try.underlying39 Try.underlying5 Try.underlying9 (fun j hj => by
    obtain rfl : j = 0 := by simpa using hj
    have h : (W.alloc (.cells #[.int .u8 (b.toNat : Int)] 5)).cell? ⟨W.heap.size, 0, none⟩ = some (.int .u8 (b.toNat : Int)) := by rw [World.cell?_alloc_new]; rfl
    rw [Go.WideShapes.add_plain]
    exact h)
theorem conv1d (W : World) (b : UInt8) : (convert 39 9 (.slice (some ⟨W.heap.size, 0, none⟩) 1 1)).run Try.prog (W.alloc (.cells #[.int .u8 (b.toNat : Int)] 5)).drew = .ok (.string (B [b])) (W.alloc (.cells #[.int .u8 (b.toNat : Int)] 5)).drew :=
  run_convert_bytes_back (P := Try.prog) _ 39 9 5 ⟨W.heap.size, 0, none⟩ 1 [b] Try.underlying39 Try.underlying5 Try.underlying9 (fun j hj => by
    obtain rfl : j = 0 := by simpa using hj
    have h : (W.alloc (.cells #[.int .u8 (b.toNat : Int)] 5)).cell? ⟨W.heap.size, 0, none⟩ = some (.int .u8 (b.toNat : Int)) := by rw [World.cell?_alloc_new]; rfl
    rw [Go.WideShapes.add_plain]
    exact h)
theorem refplain_is (lo rb N : Nat) (s : Ts) (c : UInt8) (w : World) (h27 : c.toNat ≠ 27) (H : Rt w lo rb N s) :
    Calls Try.prog 42 #[.pointer (some ⟨rb, 0, none⟩), .int .u8 (c.toNat : Int)] w fun e w' => e = .returned (.tuple #[]) ∧ Rent lo rb N (show' s c) w w' := by
  unfold show'
  rw [if_neg h27]
  by_cases h13 : c.toNat = 13
  · rw [if_pos h13, h13]; exact refplain_13 lo rb N s w H
  rw [if_neg h13]
  by_cases h10 : c.toNat = 10
  · rw [if_pos h10, h10]
    unfold down
    split
    · rename_i h; exact refplain_10 lo rb N s h w H
    · rename_i h; exact refplain_scroll lo rb N s h w H
  rw [if_neg h10]
  by_cases h8 : c.toNat = 8
  · rw [if_pos h8, h8]; exact refplain_8 lo rb N s w H
  rw [if_neg h8]
  by_cases hp : 32 ≤ c.toNat ∧ c.toNat ≤ 126
  · rw [if_pos hp]; exact refplain_put lo rb N s c w hp H
  rw [if_neg hp]
  exact refplain_x lo rb N s c.toNat w h13 h10 h8 hp H
theorem Rent.more {lo rb N N' : Nat} {s : Ts} {w w' : World} (h : Rent lo rb N s w w') (hN : N ≤ N') : Rent lo rb N' s w w' := ⟨h.1.more hN, h.2⟩
theorem Rent.alloc {lo rb N : Nat} {s : Ts} {w w' : World} (h : Rent lo rb N s w w') (o : Obj) : Rent lo rb N s w (w'.alloc o) := by
  refine ⟨h.1.below ((Below.refl _ w').alloc (Nat.le_refl _) o), h.2.alloc ?_ o⟩
  obtain ⟨A, c, q, H⟩ := h.1
  have := H.le
  have := H.blk.lt
  omega
theorem rstep_27 (s : Ts) (ok : Ok s) (c : UInt8) (hc : c.toNat = 27) : step s c = { s with esc := 1 } := by
  unfold step
  by_cases h0 : s.esc = 0
  · rw [if_pos h0]; unfold show'; rw [if_pos hc]
  rw [if_neg h0]
  by_cases h1 : s.esc = 1
  · rw [if_pos h1]; unfold begin'; rw [if_pos hc]
    obtain ⟨n, m, ls, r, k, esc, p⟩ := s
    dsimp only at h1; rw [h1]
  rw [if_neg h1]; unfold goOn; rw [if_pos hc]
section
variable (lo rb N n m : Nat) (ls : List (List UInt8)) (r k : Nat) (p : Pm) (A : Option Addr) (cc : Nat) (q : List UInt8) (w : World)
set_option maxHeartbeats 4000000 in
set_option maxRecDepth 100000 in
theorem refbyte_27 (esc : Nat) (H : Rv w lo rb N ⟨n, m, ls, r, k, esc, p⟩ A cc q) :
    Calls Try.prog 30 #[.pointer (some ⟨rb, 0, none⟩), .int .u8 27] w fun e w' => e = .returned (.tuple #[]) ∧ Rent lo rb N ⟨n, m, ls, r, k, 1, p⟩ w w' := by
  obtain ⟨_, _, _, _, _, a5, a6⟩ := H.seven
  dsimp only at a5 a6
  have f5 := H.frozen 5
  have f6 := H.frozen 6
  have FIN : Hid (Rent lo rb N ⟨n, m, ls, r, k, 1, p⟩ w ((w.setCell ⟨rb, 5, none⟩ (.int .i64 1)).setCell ⟨rb, 6, none⟩ (.string ⟨#[]⟩))) := Lib.hid (H.went (q' := []) (((But.refl rb w).setCell 5 _).setCell 6 _) ((H.blk.set 5 (.int .i64 1)).set 6 (.string ⟨#[]⟩)) (H.ok.esc' (by omega)) rfl rfl (fun e => by cases e) (fun _ => rfl) (Nat.zero_le _))
  clear H
  go_enter Try.func30, Try.ntmps30
  go_wp2
  refine bodyPost_ret (results_none rfl _ _ _) rfl ?_
  exact ⟨rfl, FIN.out.same rfl rfl rfl rfl⟩
set_option maxHeartbeats 4000000 in
set_option maxRecDepth 100000 in
theorem refbyte_0 (c : UInt8) (hc : c.toNat ≠ 27) (H : Rv w lo rb N ⟨n, m, ls, r, k, 0, p⟩ A cc q) :
    Calls Try.prog 30 #[.pointer (some ⟨rb, 0, none⟩), .int .u8 (c.toNat : Int)] w fun e w' => e = .returned (.tuple #[]) ∧ Rent lo rb N (show' ⟨n, m, ls, r, k, 0, p⟩ c) w w' := by
  obtain ⟨_, _, _, _, _, a5, _⟩ := H.seven
  dsimp only at a5
  have a5 : w.cell? ⟨rb, 5, none⟩ = some (.int .i64 0) := a5
  have C := Lib.hid (refplain_is lo rb N _ c w hc H.rt)
  have e27 : ((c.toNat : Int) == 27) = false := by simp; omega
  clear H hc
  go_enter Try.func30, Try.ntmps30
  go_wp2_with fail
  go_at_call 42
  refine C.out.mono ?_
  rintro e w' ⟨rfl, hW⟩
  have FIN := Lib.hid hW
  clear hW C a5
  go_wp2
  refine bodyPost_ret (results_none rfl _ _ _) rfl ?_
  exact ⟨rfl, FIN.out⟩
set_option maxHeartbeats 4000000 in
set_option maxRecDepth 100000 in
theorem refbyte_1 (c : UInt8) (hc : c.toNat ≠ 27) (H : Rv w lo rb N ⟨n, m, ls, r, k, 1, p⟩ A cc q) :
    Calls Try.prog 30 #[.pointer (some ⟨rb, 0, none⟩), .int .u8 (c.toNat : Int)] w fun e w' => e = .returned (.tuple #[]) ∧ Rent lo rb N (begin' ⟨n, m, ls, r, k, 1, p⟩ c) w w' := by
  obtain ⟨_, _, _, _, _, a5, _⟩ := H.seven
  dsimp only at a5
  have a5 : w.cell? ⟨rb, 5, none⟩ = some (.int .i64 1) := a5
  have f5 := H.frozen 5
  have e27 : ((c.toNat : Int) == 27) = false := by simp; omega
  have hq := H.one rfl
  subst hq
  by_cases h91 : c.toNat = 91
  · have e : begin' ⟨n, m, ls, r, k, 1, p⟩ c = ⟨n, m, ls, r, k, 2, Pm.zero⟩ := by unfold begin'; rw [if_neg hc, if_pos h91]
    rw [e, h91]
    have FIN : Hid (Rent lo rb N ⟨n, m, ls, r, k, 2, Pm.zero⟩ w ((w.setCell ⟨rb, 5, none⟩ (.int .i64 0)).setCell ⟨rb, 5, none⟩ (.int .i64 2))) := Lib.hid (H.went (q' := []) (((But.refl rb w).setCell 5 _).setCell 5 _) ((H.blk.set 5 (.int .i64 0)).set 5 (.int .i64 2)) ⟨H.ok.size, H.ok.len, H.ok.row, H.ok.cur, by simp [Pm.zero], by simp⟩ rfl rfl (fun _ => rfl) (fun _ => rfl) (Nat.zero_le _))
    clear H hc e e27 h91
    go_enter Try.func30, Try.ntmps30
    go_wp2
    refine bodyPost_ret (results_none rfl _ _ _) rfl ?_
    exact ⟨rfl, FIN.out.same rfl rfl rfl rfl⟩
  · have e : begin' ⟨n, m, ls, r, k, 1, p⟩ c = ⟨n, m, ls, r, k, 0, p⟩ := by unfold begin'; rw [if_neg hc, if_neg h91]
    rw [e]
    have e91 : ((c.toNat : Int) == 91) = false := by simp; omega
    have FIN : Hid (Rent lo rb N ⟨n, m, ls, r, k, 0, p⟩ w (w.setCell ⟨rb, 5, none⟩ (.int .i64 0))) := Lib.hid (H.went (q' := []) ((But.refl rb w).setCell 5 _) (H.blk.set 5 (.int .i64 0)) (H.ok.esc' (by omega)) rfl rfl (fun e => by cases e) (fun _ => rfl) (Nat.zero_le _))
    clear H hc e h91
    go_enter Try.func30, Try.ntmps30
    go_wp2
    refine bodyPost_ret (results_none rfl _ _ _) rfl ?_
    exact ⟨rfl, FIN.out.same rfl rfl rfl rfl⟩
set_option maxHeartbeats 4000000 in
set_option maxRecDepth 100000 in
theorem refbyte_take (hN : N ≤ 1000000) (c : UInt8) (hc : c.toNat ≠ 27) (hp : 32 ≤ c.toNat ∧ c.toNat < 64) (H : Rv w lo rb N ⟨n, m, ls, r, k, 2, p⟩ A cc q) :
    Calls Try.prog 30 #[.pointer (some ⟨rb, 0, none⟩), .int .u8 (c.toNat : Int)] w fun e w' => e = .returned (.tuple #[]) ∧ Rent lo rb (N + 1) ⟨n, m, ls, r, k, 2, take p c⟩ w w' := by
  obtain ⟨_, _, _, _, _, a5, a6⟩ := H.seven
  dsimp only at a5 a6
  have a5 : w.cell? ⟨rb, 5, none⟩ = some (.int .i64 2) := a5
  have f6 := H.frozen 6
  have hrb := H.blk.lt
  have hqn := H.short
  have e27 : ((c.toNat : Int) == 27) = false := by simp; omega
  have d1 : decide ((32 : Int) ≤ (c.toNat : Int)) = true := by simp; omega
  have d2 : decide ((c.toNat : Int) ≤ 63) = true := by simp; omega
  have hcv := fun W => conv1 W c
  have hcvd := fun W => conv1d W c
  have hadd : ∀ W, (binOp .add 9 (.string (B q)) (.string (B [c]))).run Try.prog W = .ok (.string (B (q ++ [c]))) W := fun W => add_B q [c] (by simp; omega) W
  have FIN : Hid (Rent lo rb (N + 1) ⟨n, m, ls, r, k, 2, take p c⟩ w ((w.setCell ⟨rb, 6, none⟩ (.string (B q ++ B [c]))).alloc (.cells #[.int .u8 (c.toNat : Int)] 5))) := Lib.hid (by
    have hd := H.two rfl
    have e : B q ++ B [c] = B (q ++ [c]) := by
      apply ByteArray.ext
      simp [ByteArray.data_append]
    rw [e]
    refine Rent.alloc (H.went (s' := ⟨n, m, ls, r, k, 2, take p c⟩) (N' := N + 1) (q' := q ++ [c]) ((But.refl rb _).setCell 6 _) (H.blk.set 6 (.string (B (q ++ [c])))) ⟨H.ok.size, H.ok.len, H.ok.row, H.ok.cur, take_ok _ _ H.ok.par, by simp⟩ rfl rfl (fun _ => ?_) (fun e => by cases e) (by rw [List.length_append]; show q.length + 1 ≤ N + 1; omega)) _
    rw [digest_snoc, hd])
  clear H hc hp
  go_enter Try.func30, Try.ntmps30
  go_wp2_with fail
  go_region
  all_goals
    clear a5 a6 f6
    go_wp2
    refine bodyPost_ret (results_none rfl _ _ _) rfl ?_
    exact ⟨rfl, FIN.out.same rfl rfl rfl rfl⟩
set_option maxHeartbeats 4000000 in
set_option maxRecDepth 100000 in
theorem refbyte_end (hN : N ≤ 1000000) (c : UInt8) (hc : c.toNat ≠ 27) (hp : ¬ (32 ≤ c.toNat ∧ c.toNat < 64)) (H : Rv w lo rb N ⟨n, m, ls, r, k, 2, p⟩ A cc q) :
    Calls Try.prog 30 #[.pointer (some ⟨rb, 0, none⟩), .int .u8 (c.toNat : Int)] w fun e w' => e = .returned (.tuple #[]) ∧ Rent lo rb N (obey ⟨n, m, ls, r, k, 0, p⟩ c) w w' := by
  obtain ⟨_, _, _, _, _, a5, _⟩ := H.seven
  dsimp only at a5
  have a5 : w.cell? ⟨rb, 5, none⟩ = some (.int .i64 2) := a5
  have f5 := H.frozen 5
  have e27 : ((c.toNat : Int) == 27) = false := by simp; omega
  have hd := H.two rfl
  dsimp only at hd
  have hqn := H.short
  have HV : Rv (w.setCell ⟨rb, 5, none⟩ (.int .i64 0)) lo rb N ⟨n, m, ls, r, k, 0, p⟩ A cc q := H.turn ((But.refl rb w).setCell 5 _) (H.blk.set 5 (.int .i64 0)) (H.ok.esc' (by omega)) rfl rfl (fun e => by cases e) (fun e => by cases e) hqn
  have C := Lib.hid (refcommand_is lo rb N _ A cc q c _ (by omega) hd HV)
  have HB : Hid (Below lo w (w.setCell ⟨rb, 5, none⟩ (.int .i64 0))) := Lib.hid ((Below.refl lo w).setCell (p := ⟨rb, 5, none⟩) H.le _)
  by_cases h1 : 64 ≤ c.toNat ∧ c.toNat ≤ 126
  · have d1 : decide ((32 : Int) ≤ (c.toNat : Int)) = true := by simp; omega
    have d2 : decide ((c.toNat : Int) ≤ 63) = false := by simp; omega
    have d3 : decide ((64 : Int) ≤ (c.toNat : Int)) = true := by simp; omega
    have d4 : decide ((c.toNat : Int) ≤ 126) = true := by simp; omega
    clear H HV hc hp h1 hd hqn
    go_enter Try.func30, Try.ntmps30
    go_wp2_with fail
    go_at_call 43
    refine C.out.mono ?_
    rintro e w' ⟨rfl, hW⟩
    have FIN := Lib.hid (Rent.trans HB.out hW)
    clear hW C a5 f5
    go_wp2
    go_end0
    exact ⟨rfl, FIN.out⟩
  · have e : obey ⟨n, m, ls, r, k, 0, p⟩ c = ⟨n, m, ls, r, k, 0, p⟩ := by
      unfold obey
      split
      · rfl
      iterate 7 rw [if_neg (by omega)]
    rw [e]
    have FIN : Hid (Rent lo rb N ⟨n, m, ls, r, k, 0, p⟩ w (w.setCell ⟨rb, 5, none⟩ (.int .i64 0))) := Lib.hid ⟨HV.rt, HB.out⟩
    clear H HV hc C hd hqn e
    by_cases h2 : 32 ≤ c.toNat
    · have d1 : decide ((32 : Int) ≤ (c.toNat : Int)) = true := by simp; omega
      have d2 : decide ((c.toNat : Int) ≤ 63) = false := by simp; omega
      have d3 : decide ((64 : Int) ≤ (c.toNat : Int)) = true := by simp; omega
      have d4 : decide ((c.toNat : Int) ≤ 126) = false := by simp; omega
      clear hp h1 h2
      go_enter Try.func30, Try.ntmps30
      go_wp2
      go_end0
      exact ⟨rfl, FIN.out⟩
    · have d1 : decide ((32 : Int) ≤ (c.toNat : Int)) = false := by simp; omega
      have d3 : decide ((64 : Int) ≤ (c.toNat : Int)) = false := by simp; omega
      clear hp h1 h2
      go_enter Try.func30, Try.ntmps30
      go_wp2
      go_end0
      exact ⟨rfl, FIN.out⟩
end
theorem refbyte_is (lo rb N : Nat) (s : Ts) (c : UInt8) (w : World) (hN : N ≤ 1000000) (H : Rt w lo rb N s) :
    Calls Try.prog 30 #[.pointer (some ⟨rb, 0, none⟩), .int .u8 (c.toNat : Int)] w fun e w' => e = .returned (.tuple #[]) ∧ Rent lo rb (N + 1) (step s c) w w' := by
  obtain ⟨A, cc, q, H⟩ := H
  obtain ⟨n, m, ls, r, k, esc, p⟩ := s
  have hm : ∀ {s' : Ts} {e : Ending} {w' : World}, (e = .returned (.tuple #[]) ∧ Rent lo rb N s' w w') → (e = .returned (.tuple #[]) ∧ Rent lo rb (N + 1) s' w w') := fun h => ⟨h.1, h.2.more (Nat.le_succ _)⟩
  by_cases h27 : c.toNat = 27
  · rw [rstep_27 _ H.ok c h27, h27]
    exact (refbyte_27 lo rb N n m ls r k p A cc q w esc H).mono fun e w' h => hm h
  have he := H.ok.esc
  dsimp only at he
  obtain rfl | rfl | rfl : esc = 0 ∨ esc = 1 ∨ esc = 2 := by omega
  · exact (refbyte_0 lo rb N n m ls r k p A cc q w c h27 H).mono fun e w' h => hm h
  · exact (refbyte_1 lo rb N n m ls r k p A cc q w c h27 H).mono fun e w' h => hm h
  · have e : step ⟨n, m, ls, r, k, 2, p⟩ c = goOn ⟨n, m, ls, r, k, 2, p⟩ c := rfl
    rw [e]
    unfold goOn
    rw [if_neg h27]
    by_cases hp : 32 ≤ c.toNat ∧ c.toNat < 64
    · rw [if_pos hp]
      exact refbyte_take lo rb N n m ls r k p A cc q w hN c h27 hp H
    · rw [if_neg hp]
      exact (refbyte_end lo rb N n m ls r k p A cc q w hN c h27 hp H).mono fun e w' h => hm h
set_option maxHeartbeats 4000000 in
set_option maxRecDepth 100000 in
theorem reffeed_is (lo rb N : Nat) (s : Ts) (t : ByteArray) (w : World) (hN : N + t.size ≤ 1000000) (H : Rt w lo rb N s) :
    Calls Try.prog 15 #[.pointer (some ⟨rb, 0, none⟩), .string t] w fun e w' => e = .returned (.tuple #[]) ∧ Rent lo rb (N + t.size) (feed s t.data.toList) w w' := by
  have ST : Hid (Rent lo rb (N + 0) (feed s (t.data.toList.take 0)) w w) := Lib.hid ⟨by simpa [feed] using H, Below.refl _ _⟩
  clear H
  go_enter Try.func15, Try.ntmps15
  go_wp2
  go_loopg [4] t.size (fun g s4 wr => ∃ i : Nat, i ≤ t.size ∧ t.size - i ≤ g ∧ s4 = .int .i64 i ∧ Hid (Rent lo rb (N + i) (feed s (t.data.toList.take i)) w wr))
  case atStart => exact ⟨0, Nat.zero_le _, by omega, rfl, ST⟩
  case round =>
    obtain ⟨i, hi', hg, rfl, HR⟩ := hrel
    clear ST
    by_cases hlt : i < t.size
    · have C := Lib.hid (refbyte_is lo rb (N + i) _ t[i] wr (by omega) HR.out.1)
      have HE := Lib.hid (feed_take s t i hlt)
      go_wp2_with fail
      go_at_call 30
      refine C.out.mono ?_
      rintro e w' ⟨rfl, hW⟩
      have NX : Hid (Rent lo rb (N + (i + 1)) (feed s (t.data.toList.take (i + 1))) w w') := Lib.hid (by
        rw [HE.out]; exact Rent.trans HR.out.2 hW)
      clear hW C HR HE
      go_wp2
      go_roundg (t.size - (i + 1))
      case measure => omega
      case rel => exact ⟨i + 1, by omega, by omega, by go_num, NX⟩
    · obtain rfl : i = t.size := by omega
      have FIN : Hid (Rent lo rb (N + t.size) (feed s t.data.toList) w wr) := Lib.hid (by
        have h := HR.out
        rw [List.take_of_length_le (by simp)] at h
        exact h)
      clear HR
      go_wp2
      go_end0
      exact ⟨rfl, FIN.out⟩
end Go.Proofs.Yteekihhngjbjgaa.vtt
