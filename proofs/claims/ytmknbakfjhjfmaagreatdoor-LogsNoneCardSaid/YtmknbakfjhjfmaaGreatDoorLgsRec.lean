/- Logs: Recover, Start. -/
import Derived.Test.YtmknbakfjhjfmaaGreatDoorLgsLog
import Derived.Test.YtmknbakfjhjfmaaGreatDoorLgsPut
import Derived.Test.YtmknbakfjhjfmaaGreatDoorFrmRead
/-! Logs: a journal over a file system that was made since; Add, Sync. -/
namespace Go.Proofs.YtmknbakfjhjfmaaGreatDoor.lgs
open Go.RowKit Go.Lib Go.Proofs.YtmknbakfjhjfmaaGreatDoor.fil
set_option linter.unusedVariables false
set_option linter.unusedSimpArgs false
set_option linter.unnecessarySimpa false
set_option linter.unusedSectionVars false

/-- What lies below block n is as it was at w0; a file system and its journal lie above. -/
structure Jr (n : Nat) (w0 : World) (fb : Nat) (s : St) (xb st : Nat) (w : World) : Prop where
  below : Below n w0 w
  room : n ≤ w0.heap.size
  hi : n ≤ xb
  is : ∃ F, (∀ b, F b → n ≤ b) ∧ ¬ F xb ∧ IsFs w fb s F
  log : LogAt w xb fb st false

section
variable {n fb xb st : Nat} {w0 w w' : World} {s s' : St} {F : Nat → Prop}
theorem Jr.size (h : Jr n w0 fb s xb st w) : n ≤ w.heap.size := Nat.le_trans h.room h.below.size
theorem Jr.move (h : Jr n w0 fb s xb st w) (hB : Below w.heap.size w w') : Jr n w0 fb s xb st w' := by
  obtain ⟨F, h1, h2, h3⟩ := h.is
  exact ⟨h.below.trans (hB.mono h.size), h.room, h.hi, ⟨F, h1, h2, h3.below hB⟩, At.same h.log (hB.block _ (At.lt h.log))⟩
theorem Jr.lift {f : FuncId} {args : Array Value} {r : Ending} (h : Jr n w0 fb s xb st w) (C : ∀ F, (∀ b, F b → n ≤ b) → IsFs w fb s F → Calls Tryz.prog f args w fun e w' => e = r ∧ Went F fb s' w w') :
    Calls Tryz.prog f args w fun e w' => e = r ∧ Jr n w0 fb s' xb st w' := by
  obtain ⟨F, h1, h2, h3⟩ := h.is
  refine (C F h1 h3).mono ?_
  rintro e w' ⟨rfl, hT, F', h4, h5⟩
  refine ⟨rfl, h.below.trans (hT.below h.size h1), h.room, h.hi, ⟨F', fun b hb => ?_, fun hx => ?_, h5⟩, hT.at h.log h2⟩
  · rcases h4 b hb with h6 | h6
    · exact h1 b h6
    · have := h.size; omega
  · rcases h4 xb hx with h6 | h6
    · exact h2 h6
    · have := At.lt h.log; omega
theorem Jr.set (h : Jr n w0 fb s xb st w) : Jr n w0 fb s xb st (w.setCell ⟨xb, 2, none⟩ (.bool false)) := by
  obtain ⟨F, h1, h2, mb, D, G, dp, h3⟩ := h.is
  refine ⟨h.below.setCell h.hi _, h.room, h.hi, ⟨F, h1, h2, mb, D, G, dp, h3.same (fun b hb => Below.heap_setCell w _ _ b (fun e => h2 (by rw [← show b = xb from e]; exact hb))) (by simp)⟩, At.set h.log 2 _⟩
theorem Jr.vars (h : Jr n w0 fb s xb st w) (hV : frm.Vars n w0) : frm.Vars w.heap.size w := (hV.below h.below).more h.size

theorem add_no (p : Option Addr) (A : Option Addr) (k c : Nat) (w : World) (h : NoLog w p) : Calls Tryz.prog 7 #[.pointer p, .slice A k c] w fun e w' => e = .returned (.int .i64 1) ∧ Below w.heap.size w w' := by
  have C := Lib.hid (log_no p w h)
  clear h
  go_enter Tryz.func7, Tryz.ntmps7
  go_wp2_with (go_at_call 17; (with_reducible refine C.out.mono ?_); rintro e w1 ⟨rfl, hB1⟩)
  go_ret
  exact ⟨rfl, hB1⟩
theorem sync_none (p : Option Addr) (w : World) (h : NoLog w p) : Calls Tryz.prog 8 #[.pointer p] w fun e w' => e = .returned (.int .i64 1) ∧ Below w.heap.size w w' := by
  have C := Lib.hid (log_no p w h)
  clear h
  go_enter Tryz.func8, Tryz.ntmps8
  go_wp2_with (go_at_call 17; (with_reducible refine C.out.mono ?_); rintro e w1 ⟨rfl, hB1⟩)
  go_ret
  exact ⟨rfl, hB1⟩
theorem sync_over (w : World) (h : Jr n w0 fb s xb st w) (ho : s.off = true) : Calls Tryz.prog 8 #[.pointer (some ⟨xb, 0, none⟩)] w fun e w' => e = .returned (.int .i64 51) ∧ Below w.heap.size w w' := by
  obtain ⟨F, h1, h2, h3⟩ := h.is
  have C := Lib.hid (log_down w h.log h3 ho)
  clear h h1 h2 h3 ho
  go_enter Tryz.func8, Tryz.ntmps8
  go_wp2_with (go_at_call 17; (with_reducible refine C.out.mono ?_); rintro e w1 ⟨rfl, hB1⟩)
  go_ret
  exact ⟨rfl, hB1⟩

theorem answer_ok (w : World) (h : Jr n w0 fb s xb st w) : Calls Tryz.prog 20 #[.pointer (some ⟨xb, 0, none⟩), .nilIface] w fun e w' => e = .returned (.int .i64 0) ∧ Jr n w0 fb s xb st w' := by
  have c2 : w.cell? ⟨xb, 2, none⟩ = some (.bool false) := At.cell h.log 2
  have f2 : w.frozen? ⟨xb, 2, none⟩ = false := At.frozen h.log 2
  have HJ := Lib.hid h.set
  clear h
  go_enter Tryz.func20, Tryz.ntmps20
  go_wp2_with (go_at_call 27; refine (number_nil _).mono ?_; rintro e w1 ⟨rfl, hB1⟩)
  go_ret
  exact ⟨rfl, HJ.out.move hB1⟩

theorem add_ok (b c : Nat) (A2 : Option Addr) (k2 : Nat) (w : World) (h : Jr n w0 fb s1 xb 0 w) (hV : frm.Vars n w0) (hA : pce.At w b 46 #[.int .i64 1, .int .i64 0, .slice A2 1 k2]) (hL : pce.Lst w (fun _ => True) A2 1 k2 [Lx]) :
    Calls Tryz.prog 7 #[.pointer (some ⟨xb, 0, none⟩), .slice (some ⟨b, 0, none⟩) 1 c] w fun e w' => e = .returned (.int .i64 0) ∧ Jr n w0 fb s2 xb 0 w' := by
  have K1 : Hid (Calls Tryz.prog 17 #[.pointer (some ⟨xb, 0, none⟩)] w fun e w' => e = .returned (.int .i64 0) ∧ Below w.heap.size w w') := Lib.hid (by
    obtain ⟨F, h1, h2, h3⟩ := h.is
    exact log_ok w h.log h3 rfl rfl)
  have K2 := Lib.hid (fun W (hB : Below w.heap.size w W) => putChange_one b c A2 k2 W (pce.At.same hA (hB.block _ (pce.At.lt hA))) (hL.below hB) ((h.move hB).vars hV).1)
  have K3 : Hid (∀ W, Jr n w0 fb s1 xb 0 W → Calls Tryz.prog 19 #[.string (B C1)] W fun e w' => e = .returned (.tuple #[.string (B K), .int .i64 0]) ∧ Below W.heap.size W w') := Lib.hid fun W hJ => by
    have C := frm.frame13 (B C1) W (by rw [B_size]; have := C1_len; omega) (hJ.vars hV)
    rw [list_B] at C
    exact C
  have K4 : Hid (∀ W, Jr n w0 fb s1 xb 0 W → Calls Tryz.prog 22 #[.pointer (some ⟨fb, 0, none⟩), .string logB, .string (B K)] W fun e w' => e = .returned (.int .i64 0) ∧ Jr n w0 fb s2 xb 0 w') := Lib.hid fun W hJ => hJ.lift fun F _ hI => by
    have C := append_is logB (B K) W (by decide) (by rw [B_size]; have := K_len; unfold maxLen; omega) hI
    rw [logB_list, list_B, app1] at C
    exact C
  have HJ := Lib.hid h
  clear h hV hA hL
  generalize B C1 = p at *
  generalize B K = q at *
  go_enter Tryz.func7, Tryz.ntmps7
  go_wp2_with (first
    | (go_at_call 17; (with_reducible refine K1.out.mono ?_); rintro e w1 ⟨rfl, hB1⟩)
    | (go_at_call 18; (with_reducible refine (K2.out _ hB1).mono ?_); rintro e w2 ⟨rfl, hB2⟩; have hB12 := hB1.trans (hB2.mono hB1.size); have hJ2 := HJ.out.move hB12)
    | (go_at_call 19; (with_reducible refine (K3.out _ hJ2).mono ?_); rintro e w3 ⟨rfl, hB3⟩; have hJ3 := hJ2.move hB3; have c0 := At.cell hJ3.log 0; have HJ3 := Lib.hid hJ3; clear hJ3)
    | (go_at_call 22; (with_reducible refine (K4.out _ HJ3.out).mono ?_); rintro e w4 ⟨rfl, hJ4⟩)
    | (go_at_call 21; refine (told_is ⟨#[97, 112, 112, 101, 110, 100]⟩ 0 _).mono ?_; rintro e w5 ⟨rfl, hB5⟩; have hJ5 := hJ4.move hB5; simp only [toldV]; simp only [if_true])
    | (go_at_call 20; (with_reducible refine (answer_ok _ hJ5).mono ?_); rintro e w6 ⟨rfl, hJ6⟩))
  go_ret
  exact ⟨rfl, hJ6⟩
end
end Go.Proofs.YtmknbakfjhjfmaaGreatDoor.lgs

/-! Logs: Recover, Start. -/
namespace Go.Proofs.YtmknbakfjhjfmaaGreatDoor.lgs
open Go.RowKit Go.Lib Go.Proofs.YtmknbakfjhjfmaaGreatDoor.fil
set_option linter.unusedVariables false
set_option linter.unusedSimpArgs false
set_option linter.unnecessarySimpa false
set_option linter.unusedSectionVars false

abbrev reading : ByteArray := ⟨#[114, 101, 97, 100]⟩
section
variable {n fb xb st : Nat} {w0 w w' : World} {s s' : St} {F : Nat → Prop}
theorem told_act (z : ByteArray) (k : Int) (hk : k ≠ 0) (w : World) : Calls Tryz.prog 21 #[.string z, .int .i64 k] w fun e w' => e = .returned (.iface 78 (.agg #[.string z, .iface 29 (.int .i64 k)])) ∧ Below w.heap.size w w' := by
  have C := told_is z k w
  unfold toldV at C
  rw [if_neg hk] at C
  exact C
theorem went_next' {f : FuncId} {args : Array Value} {r : Ending} (hW : Went F fb s w w') (C : ∀ F', (∀ b, F' b → F b ∨ w.heap.size ≤ b) → IsFs w' fb s F' → Calls Tryz.prog f args w' fun e w2 => e = r ∧ Went F' fb s' w' w2) :
    Calls Tryz.prog f args w' fun e w2 => e = r ∧ Went F fb s' w w2 := by
  obtain ⟨hT, F', h1, h2⟩ := hW
  exact (C F' h1 h2).mono fun e w2 ⟨he, h3⟩ => ⟨he, Wentz.trans hT h1 h3⟩
theorem rec_no (p : Option Addr) (w : World) (h : NoFs w p) (hV : ErrT w.heap.size w) : Calls Tryz.prog 13 #[.pointer p] w fun e w' => e = .returned (.tuple #[.slice none 0 0, .int .i64 0, .int .i64 1]) ∧ Below w.heap.size w w' := by
  have C := Lib.hid (read_no p logB w h)
  have HV := Lib.hid hV
  clear h hV
  go_enter Tryz.func13, Tryz.ntmps13
  go_wp2_with (first
    | (go_at_call 33; (with_reducible refine C.out.mono ?_); rintro e w1 ⟨rfl, rfl⟩)
    | (go_at_call 21; refine (told_is reading 1 _).mono ?_; rintro e w2 ⟨rfl, hB2⟩; simp only [toldV]; simp only [show ((1 : Int) = 0) = False by simp, if_false]; simp only [actV])
    | (go_at_call 27; refine (number_act reading 1 _ (HV.out.below hB2 (Nat.le_refl _))).mono ?_; rintro e w3 ⟨rfl, hB3⟩))
  go_ret3
  exact ⟨rfl, hB2.trans (hB3.mono hB2.size)⟩
theorem rec_err (k : Int) (hk : k ≠ 0) (w : World) (h : IsFs w fb s F) (hr : reads s logL = ([], k)) (hV : ErrT n w) : Calls Tryz.prog 13 #[.pointer (some ⟨fb, 0, none⟩)] w fun e w' => e = .returned (.tuple #[.slice none 0 0, .int .i64 0, .int .i64 k]) ∧ Below w.heap.size w w' := by
  obtain ⟨mb, D, G, dp, h⟩ := h
  have C := read_is logB w (by decide) h
  rw [logB_list, hr] at C
  have C := Lib.hid C
  have HV := Lib.hid hV
  have HK := Lib.hid (fun W => told_act reading k hk W)
  clear h hV hr hk
  go_enter Tryz.func13, Tryz.ntmps13
  go_wp2_with (first
    | (go_at_call 33; (with_reducible refine C.out.mono ?_); rintro e w1 ⟨rfl, rfl⟩)
    | (go_at_call 21; (with_reducible refine (HK.out _).mono ?_); rintro e w2 ⟨rfl, hB2⟩)
    | (go_at_call 27; refine (number_act reading k _ (HV.out.below hB2 HV.out.2.1)).mono ?_; rintro e w3 ⟨rfl, hB3⟩))
  go_ret3
  exact ⟨rfl, hB2.trans (hB3.mono hB2.size)⟩
theorem rec_two (w : World) (h : IsFs w fb s2 F) (hV : frm.Vars w.heap.size w) : Calls Tryz.prog 13 #[.pointer (some ⟨fb, 0, none⟩)] w fun e w' => ∃ v, e = .returned (.tuple #[v, .int .i64 1, .int .i64 0]) ∧ Lines w [La, Lx, Lb] v w' := by
  obtain ⟨mb, D, G, dp, h⟩ := h
  have C := read_is logB w (by decide) h
  rw [logB_list, rd2] at C
  have C := Lib.hid C
  have K1 := Lib.hid (fun W (hB : Below w.heap.size w W) => read_two W (hV.next hB))
  clear h hV
  generalize B (J ++ K) = t at *
  go_enter Tryz.func13, Tryz.ntmps13
  go_wp2_with (first
    | (go_at_call 33; (with_reducible refine C.out.mono ?_); rintro e w1 ⟨rfl, rfl⟩)
    | (go_at_call 21; refine (told_is reading 0 _).mono ?_; rintro e w2 ⟨rfl, hB2⟩; simp only [toldV]; simp only [if_true])
    | (go_at_call 34; (with_reducible refine (K1.out _ hB2).mono ?_); rintro e w3 ⟨v, rfl, A, k, rfl, hL, hB3⟩))
  go_ret3
  exact ⟨_, rfl, A, k, rfl, hL.mono (fun b hb _ => Nat.le_trans hB2.size hb), hB2.trans (hB3.mono hB2.size)⟩
theorem rec_one (w : World) (h : IsFs w fb s4 F) (hV : frm.Vars w.heap.size w) : Calls Tryz.prog 13 #[.pointer (some ⟨fb, 0, none⟩)] w fun e w' => ∃ v, e = .returned (.tuple #[v, .int .i64 0, .int .i64 0]) ∧ Lines w [La, Lb] v w' := by
  obtain ⟨mb, D, G, dp, h⟩ := h
  have C := read_is logB w (by decide) h
  rw [logB_list, rd4] at C
  have C := Lib.hid C
  have K1 := Lib.hid (fun W (hB : Below w.heap.size w W) => read_one W (hV.next hB))
  clear h hV
  generalize B J = t at *
  go_enter Tryz.func13, Tryz.ntmps13
  go_wp2_with (first
    | (go_at_call 33; (with_reducible refine C.out.mono ?_); rintro e w1 ⟨rfl, rfl⟩)
    | (go_at_call 21; refine (told_is reading 0 _).mono ?_; rintro e w2 ⟨rfl, hB2⟩; simp only [toldV]; simp only [if_true])
    | (go_at_call 34; (with_reducible refine (K1.out _ hB2).mono ?_); rintro e w3 ⟨v, rfl, A, k, rfl, hL, hB3⟩))
  go_ret3
  exact ⟨_, rfl, A, k, rfl, hL.mono (fun b hb _ => Nat.le_trans hB2.size hb), hB2.trans (hB3.mono hB2.size)⟩

/-! ### Start -/
theorem start_no (p : Option Addr) (A : Option Addr) (k c : Nat) (w : World) (h : NoFs w p) : Calls Tryz.prog 9 #[.pointer p, .slice A k c] w fun e w' => e = .returned (.tuple #[.pointer none, .int .i64 1]) ∧ Below w.heap.size w w' := by
  have C := Lib.hid (none_no p w h)
  clear h
  go_enter Tryz.func9, Tryz.ntmps9
  go_wp2_with (go_at_call 24; (with_reducible refine C.out.mono ?_); rintro e w1 ⟨rfl, rfl⟩)
  go_ret2
  exact ⟨rfl, Below.refl _ _⟩
theorem putL_short (zs : List ByteArray) (hn : zs.length ≤ 20) (ht : tot zs ≤ 6000) : (num.putL (num.bytesOf zs)).length ≤ 999999 := by
  have := num.putK_len zs.length zs zs.length (by unfold num.MX; omega) (by omega)
  rw [num.putK_all, List.take_length] at this
  omega
theorem start_down (A : Option Addr) (k c : Nat) (zs : List ByteArray) (w : World) (h : IsFs w fb s F) (ho : s.off = true) (hF : ∀ b, F b → n ≤ b) (hn : n ≤ w.heap.size) (hV : frm.Vars n w) (hk : k = zs.length) (hb : k ≤ 20) (ht : tot zs ≤ 6000) (hS : SRd w w.heap.size A zs) :
    Calls Tryz.prog 9 #[.pointer (some ⟨fb, 0, none⟩), .slice A k c] w fun e w' => e = .returned (.tuple #[.pointer none, .int .i64 51]) ∧ Went F fb s w w' := by
  have hq := putL_short zs (by omega) ht
  have K0 := Lib.hid (none_is w h)
  have K1 := putLines_is A c k zs w hk (by omega) (by omega) hS hq (hV.more hn).1
  have K2 : ∀ W, Below w.heap.size w W → Calls Tryz.prog 19 #[.string (B (98 :: num.putL (num.bytesOf zs)))] W fun e w' => e = .returned (.tuple #[.string (B (frm.frameL (98 :: num.putL (num.bytesOf zs)))), .int .i64 0]) ∧ Below W.heap.size W w' := fun W hB => by
    have C := frm.frame13 (B (98 :: num.putL (num.bytesOf zs))) W (by rw [B_size, List.length_cons]; omega) ((hV.more hn).next hB)
    rw [list_B] at C
    exact C
  generalize B (98 :: num.putL (num.bytesOf zs)) = p at *
  generalize B (frm.frameL (98 :: num.putL (num.bytesOf zs))) = q at *
  have K1 := Lib.hid K1
  have K2 := Lib.hid K2
  have K3 : Hid (∀ W, Went F fb s w W → Calls Tryz.prog 26 #[.pointer (some ⟨fb, 0, none⟩), .string q] W fun e w' => e = .returned (actV removing 51) ∧ Went F fb s w w') := Lib.hid fun W hW => by
    have hVW := vars_went hV hn hF hW
    have hnW : n ≤ W.heap.size := Nat.le_trans hn hW.1.size
    refine went_next' hW (fun F' hF' hI => ?_)
    exact begin_down q W hI ho (ErrT.of hVW hnW) (fun b hb => (hF' b hb).elim (hF b) (fun h => by omega))
  have HV : Hid (∀ W, Went F fb s w W → ErrT n W) := Lib.hid fun W hW => ErrT.of (vars_went hV hn hF hW) (Nat.le_trans hn hW.1.size)
  have HW := Lib.hid (fun W (hB : Below w.heap.size w W) => (Wentz.of_below h hB : Went F fb s w W))
  clear h ho hF hn hV hk hb ht hS hq
  go_enter Tryz.func9, Tryz.ntmps9
  go_wp2_with (first
    | (go_at_call 24; (with_reducible refine K0.out.mono ?_); rintro e w1 ⟨rfl, rfl⟩)
    | (go_at_call 25; (with_reducible refine K1.out.mono ?_); rintro e w2 ⟨rfl, hB2⟩)
    | (go_at_call 19; (with_reducible refine (K2.out _ hB2).mono ?_); rintro e w3 ⟨rfl, hB3⟩; have hW3 := HW.out _ (hB2.trans (hB3.mono hB2.size)))
    | (go_at_call 26; (with_reducible refine (K3.out _ hW3).mono ?_); rintro e w4 ⟨rfl, hW4⟩; simp only [actV])
    | (go_at_call 27; refine (number_act removing 51 _ (HV.out _ hW4)).mono ?_; rintro e w5 ⟨rfl, hB5⟩))
  go_ret2
  exact ⟨rfl, went_move hW4 hB5⟩
theorem start_new (A : Option Addr) (c : Nat) (w : World) (h : Run n w0 fb s0 w) (hV : frm.Vars n w0) (hS : SRd w w.heap.size A [La, Lb]) :
    Calls Tryz.prog 9 #[.pointer (some ⟨fb, 0, none⟩), .slice A 2 c] w fun e w' => ∃ xb, e = .returned (.tuple #[.pointer (some ⟨xb, 0, none⟩), .int .i64 0]) ∧ Jr n w0 fb s1 xb 0 w' := by
  have hn := h.size
  have hV1 : ∀ W, Run n w0 fb s0 W → frm.Vars W.heap.size W := fun W hR => (hV.below hR.below).more hR.size
  have K0 : Calls Tryz.prog 24 #[.pointer (some ⟨fb, 0, none⟩)] w fun e w' => e = .returned (.bool false) ∧ w = w' := by
    obtain ⟨F, hF, hI⟩ := h.is
    exact none_is w hI
  have K1 : Calls Tryz.prog 25 #[.slice A 2 c] w fun e w' => e = .returned (.string (B P1)) ∧ Below w.heap.size w w' :=
    putLines_is A c 2 [La, Lb] w rfl (by omega) (by decide) hS (by decide +kernel) (hV1 w h).1
  have K2 : ∀ W, Run n w0 fb s0 W → Calls Tryz.prog 19 #[.string (B P1)] W fun e w' => e = .returned (.tuple #[.string (B J), .int .i64 0]) ∧ Run n w0 fb s0 w' := fun W hR => by
    have C := frm.frame13 (B P1) W (by rw [B_size]; have := P1_len; omega) (hV1 W hR)
    rw [list_B] at C
    exact C.mono fun e w' hh => ⟨hh.1, hR.move hh.2⟩
  have K3 : ∀ W, Run n w0 fb s0 W → Calls Tryz.prog 26 #[.pointer (some ⟨fb, 0, none⟩), .string (B J)] W fun e w' => e = .returned .nilIface ∧ Run n w0 fb s1 w' := fun W hR => by
    obtain ⟨F, hF, hI⟩ := hR.is
    exact (begin_ok W hI (ErrT.of (hV.below hR.below) hR.size) hF).mono fun e w' hh => ⟨hh.1, Run.went hR.below hR.room hF hh.2⟩
  have K4 : ∀ W, Run n w0 fb s1 W → Calls Tryz.prog 28 #[.pointer (some ⟨fb, 0, none⟩)] W fun e w' => e = .returned (.int .i64 0) ∧ W = w' := fun W hR => starts_run hR
  have HN : ∀ W, Run n w0 fb s1 W → Jr n w0 fb s1 W.heap.size 0 (W.alloc (.cells #[.pointer (some ⟨fb, 0, none⟩), .int .i64 0, .bool false] 34)) := fun W hR => by
    obtain ⟨F, hF, hI⟩ := hR.is
    have hB : Below W.heap.size W (W.alloc (.cells #[.pointer (some ⟨fb, 0, none⟩), .int .i64 0, .bool false] 34)) := (Below.refl _ _).alloc (Nat.le_refl _) _
    exact ⟨hR.below.trans (hB.mono hR.size), hR.room, hR.size, ⟨F, hF, fun hx => by have := hI.lt _ hx; omega, hI.below hB⟩, At.new W _ _⟩
  generalize B P1 = p at *
  generalize B J = q at *
  have K0 := Lib.hid K0
  have K1 := Lib.hid K1
  have K2 := Lib.hid K2
  have K3 := Lib.hid K3
  have K4 := Lib.hid K4
  have HN := Lib.hid HN
  have HR := Lib.hid h
  clear h hV hS hV1 hn
  go_enter Tryz.func9, Tryz.ntmps9
  go_wp2_with (first
    | (go_at_call 24; (with_reducible refine K0.out.mono ?_); rintro e w1 ⟨rfl, rfl⟩)
    | (go_at_call 25; (with_reducible refine K1.out.mono ?_); rintro e w2 ⟨rfl, hB2⟩; have hR2 := HR.out.move hB2)
    | (go_at_call 19; (with_reducible refine (K2.out _ hR2).mono ?_); rintro e w3 ⟨rfl, hR3⟩)
    | (go_at_call 26; (with_reducible refine (K3.out _ hR3).mono ?_); rintro e w4 ⟨rfl, hR4⟩)
    | (go_at_call 28; (with_reducible refine (K4.out _ hR4).mono ?_); rintro e w5 ⟨rfl, rfl⟩))
  go_ret2
  exact ⟨_, rfl, HN.out _ hR4⟩
end
end Go.Proofs.YtmknbakfjhjfmaaGreatDoor.lgs
