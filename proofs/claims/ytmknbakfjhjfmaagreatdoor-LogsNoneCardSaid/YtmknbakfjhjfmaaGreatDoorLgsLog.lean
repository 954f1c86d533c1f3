/- Logs: a journal; what is asked of one that is none, or over; Sync. -/
import Derived.Test.YtmknbakfjhjfmaaGreatDoorLgsAs2
import Derived.Test.YtmknbakfjhjfmaaGreatDoorFilTell
import Derived.Test.YtmknbakfjhjfmaaGreatDoorLgsPure
import Derived.Test.YtmknbakfjhjfmaaGreatDoorFrmWords
import Derived.Test.YtmknbakfjhjfmaaGreatDoorFilRun
import Derived.Deep.RegionWith
import Derived.Test.YtmknbakfjhjfmaaGreatDoorHeld
/-! Logs: errors.As at targets laid just now; what told, hinders and number are. -/
namespace Go.Proofs.YtmknbakfjhjfmaaGreatDoor.lgs
open Go.RowKit Go.Lib Go.Extern.Stop Go.Stop Go.Extern Go.Proofs.YtmknbakfjhjfmaaGreatDoor.fil
set_option linter.unusedVariables false
set_option linter.unusedSimpArgs false

/-- At a target that was laid just now: true, and the target is what the error is. -/
theorem as_trouble (z : ByteArray) (k : Int) (w : World) (hlt : 0 < w.heap.size) (hg : w.cell? ⟨0, 0, none⟩ = some (.iface 146 (.agg #[.pointer (some ⟨7, 53, none⟩)]))) :
    Calls Tryz.prog 52 #[.iface 78 (.agg #[.string z, .iface 29 (.int .i64 k)]), .iface 90 (.pointer (some ⟨w.heap.size, 0, none⟩))] (w.alloc (.cells #[.string ⟨#[]⟩, .nilIface] 78)) fun e w' => e = .returned (.bool true) ∧ Below w.heap.size w w' ∧ At w' w.heap.size 78 #[.string z, .iface 29 (.int .i64 k)] := by
  have hg2 : (w.alloc (.cells #[.string ⟨#[]⟩, .nilIface] 78)).cell? ⟨0, 0, none⟩ = some (.iface 146 (.agg #[.pointer (some ⟨7, 53, none⟩)])) := by
    rw [World.cell?_alloc_lt _ _ ⟨0, 0, none⟩ hlt]; exact hg
  refine (as_trouble0 z k w.heap.size (.string ⟨#[]⟩) .nilIface (w.alloc (.cells #[.string ⟨#[]⟩, .nilIface] 78)) (by simp) hg2 (by simp) (by simp) (by simp) (by simp) (by simp)).mono ?_
  rintro e w' ⟨rfl, rfl⟩
  have h0 : Below w.heap.size w (w.alloc (.cells #[.string ⟨#[]⟩, .nilIface] 78)) := (Below.refl _ w).alloc (Nat.le_refl _) _
  refine ⟨rfl, (((((h0.alloc h0.size _).alloc (by simp; omega) _).alloc (by simp; omega) _).alloc (by simp; omega) _).setCell (Nat.le_refl _) _).setCell (Nat.le_refl _) _, ?_⟩
  exact (((((At.new w 78 #[.string ⟨#[]⟩, .nilIface]).alloc _).alloc _).alloc _).alloc _ |>.set 0 _).set 1 _
theorem as_errno (z : ByteArray) (k : Int) (w : World) (hlt : 0 < w.heap.size) (hg : w.cell? ⟨0, 0, none⟩ = some (.iface 146 (.agg #[.pointer (some ⟨7, 53, none⟩)]))) :
    Calls Tryz.prog 52 #[.iface 78 (.agg #[.string z, .iface 29 (.int .i64 k)]), .iface 89 (.pointer (some ⟨w.heap.size, 0, none⟩))] (w.alloc (.cells #[.int .i64 0] 29)) fun e w' => e = .returned (.bool true) ∧ Below w.heap.size w w' ∧ At w' w.heap.size 29 #[.int .i64 k] := by
  have hg2 : (w.alloc (.cells #[.int .i64 0] 29)).cell? ⟨0, 0, none⟩ = some (.iface 146 (.agg #[.pointer (some ⟨7, 53, none⟩)])) := by
    rw [World.cell?_alloc_lt _ _ ⟨0, 0, none⟩ hlt]; exact hg
  refine (as_errno0 z k w.heap.size (.int .i64 0) (w.alloc (.cells #[.int .i64 0] 29)) (by simp) hg2 (by simp) (by simp) (by simp)).mono ?_
  rintro e w' ⟨rfl, rfl⟩
  have h0 : Below w.heap.size w (w.alloc (.cells #[.int .i64 0] 29)) := (Below.refl _ w).alloc (Nat.le_refl _) _
  refine ⟨rfl, (((((h0.alloc h0.size _).alloc (by simp; omega) _).alloc (by simp; omega) _).alloc (by simp; omega) _).alloc (by simp; omega) _).setCell (Nat.le_refl _) _, ?_⟩
  exact ((((((At.new w 29 #[.int .i64 0]).alloc _).alloc _).alloc _).alloc _).alloc _).set 0 _

/-! ### told, hinders, number -/
def actV (s : ByteArray) (k : Int) : Value := .iface 78 (.agg #[.string s, .iface 29 (.int .i64 k)])
/-- What told makes of an act and a number. -/
def toldV (s : ByteArray) (k : Int) : Value := if k = 0 then .nilIface else actV s k
/-- The variable that errors.As reads. -/
def ErrT (n : Nat) (w : World) : Prop := 0 < n ∧ n ≤ w.heap.size ∧ w.cell? ⟨0, 0, none⟩ = some (.iface 146 (.agg #[.pointer (some ⟨7, 53, none⟩)]))
theorem ErrT.below {n m : Nat} {w w' : World} (h : ErrT n w) (hB : Below m w w') (hm : n ≤ m) : ErrT n w' := ⟨h.1, Nat.le_trans h.2.1 hB.size, (hB.cell (p := ⟨0, 0, none⟩) (Nat.lt_of_lt_of_le h.1 hm)).trans h.2.2⟩
theorem ErrT.lt {n : Nat} {w : World} (h : ErrT n w) : 0 < w.heap.size := Nat.lt_of_lt_of_le h.1 h.2.1

theorem told_is (s : ByteArray) (k : Int) (w : World) :
    Calls Tryz.prog 21 #[.string s, .int .i64 k] w fun e w' => e = .returned (toldV s k) ∧ Below w.heap.size w w' := by
  unfold toldV actV
  by_cases h : k = 0
  · subst h
    go_enter Tryz.func21, Tryz.ntmps21
    go_wp2
    go_ret
    exact ⟨rfl, Below.refl _ _⟩
  · rw [if_neg h]
    have hb : (k == 0) = false := by simp [h]
    go_enter Tryz.func21, Tryz.ntmps21
    go_wp2
    go_ret
    exact ⟨rfl, Below.refl _ _⟩

/-- "remove". -/
abbrev removing : ByteArray := ⟨#[114, 101, 109, 111, 118, 101]⟩

theorem hinders_nil (w : World) :
    Calls Tryz.prog 30 #[.nilIface] w fun e w' => e = .returned (.bool false) ∧ Below w.heap.size w w' := by
  go_enter Tryz.func30, Tryz.ntmps30
  go_wp2_with (go_at_call 52; refine (as_nil _ _).mono ?_; rintro e w' ⟨rfl, rfl⟩)
  go_ret
  exact ⟨rfl, (Below.refl _ _).alloc (Nat.le_refl _) _⟩
theorem hinders_four {n : Nat} (w : World) (hE : ErrT n w) :
    Calls Tryz.prog 30 #[actV removing 4] w fun e w' => e = .returned (.bool false) ∧ Below w.heap.size w w' := by
  have C := Lib.hid (as_trouble removing 4 w hE.lt hE.2.2)
  clear hE
  unfold actV
  go_enter Tryz.func30, Tryz.ntmps30
  go_wp2_with (first
    | (go_at_call 52; refine C.out.mono ?_; rintro e w1 ⟨rfl, hB, hA⟩; have c0 := hA.cell 0; have c1 := hA.cell 1)
    | (go_at_call 42; refine (is_same _ _ _).mono ?_; rintro e w2 ⟨rfl, hB2⟩))
  go_ret
  exact ⟨rfl, hB.trans (hB2.mono hB.size)⟩
theorem hinders_act {n : Nat} (k : Int) (hk : k ≠ 4) (w : World) (hE : ErrT n w) :
    Calls Tryz.prog 30 #[actV removing k] w fun e w' => e = .returned (.bool true) ∧ Below w.heap.size w w' := by
  have C := Lib.hid (as_trouble removing k w hE.lt hE.2.2)
  have HK := Lib.hid hk
  clear hE hk
  unfold actV
  go_enter Tryz.func30, Tryz.ntmps30
  go_wp2_with (first
    | (go_at_call 52; refine C.out.mono ?_; rintro e w1 ⟨rfl, hB, hA⟩; have c0 := hA.cell 0; have c1 := hA.cell 1)
    | (go_at_call 42; refine (is_other _ k 4 HK.out _).mono ?_; rintro e w2 ⟨rfl, hB2⟩))
  go_ret
  exact ⟨rfl, hB.trans (hB2.mono hB.size)⟩

theorem number_nil (w : World) :
    Calls Tryz.prog 27 #[.nilIface] w fun e w' => e = .returned (.int .i64 0) ∧ Below w.heap.size w w' := by
  go_enter Tryz.func27, Tryz.ntmps27
  go_wp2_with (go_at_call 52; refine (as_nil _ _).mono ?_; rintro e w' ⟨rfl, rfl⟩)
  go_ret
  exact ⟨rfl, (Below.refl _ _).alloc (Nat.le_refl _) _⟩
theorem number_act {n : Nat} (s : ByteArray) (k : Int) (w : World) (hE : ErrT n w) :
    Calls Tryz.prog 27 #[actV s k] w fun e w' => e = .returned (.int .i64 k) ∧ Below w.heap.size w w' := by
  have C := Lib.hid (as_errno s k w hE.lt hE.2.2)
  clear hE
  unfold actV
  go_enter Tryz.func27, Tryz.ntmps27
  go_wp2_with (go_at_call 52; refine C.out.mono ?_; rintro e w1 ⟨rfl, hB, hA⟩; have c0 := hA.cell 0)
  go_ret
  exact ⟨rfl, hB⟩
end Go.Proofs.YtmknbakfjhjfmaaGreatDoor.lgs

/-! Logs: a file system under a journal; what is asked of none, and of one that is down; Stop. -/
namespace Go.Proofs.YtmknbakfjhjfmaaGreatDoor.lgs
open Go.RowKit Go.Lib Go.Proofs.YtmknbakfjhjfmaaGreatDoor.fil
set_option linter.unusedVariables false
set_option linter.unusedSimpArgs false
set_option linter.unnecessarySimpa false
set_option linter.unusedSectionVars false

section
variable {n fb : Nat} {w0 w w' : World} {s s' : St} {F : Nat → Prop}
theorem ErrT.of {n : Nat} {w : World} (h : frm.Vars n w) (hn : n ≤ w.heap.size) : ErrT n w := ⟨h.2.2.1, hn, h.2.2.2⟩

abbrev logB : ByteArray := ⟨#[108, 111, 103]⟩
abbrev drfB : ByteArray := ⟨#[108, 111, 103, 43]⟩
theorem logB_list : logB.data.toList = logL := rfl
theorem drfB_list : drfB.data.toList = drfL := rfl

theorem reads_empty (hs : Ok s) : (reads s (⟨#[]⟩ : ByteArray).data.toList).2 ≠ 1 := by
  unfold reads
  split
  · decide
  · split <;> simp

theorem none_no (p : Option Addr) (w : World) (h : NoFs w p) : Calls Tryz.prog 24 #[.pointer p] w fun e w' => e = .returned (.bool true) ∧ w = w' := by
  have C := Lib.hid (read_no p ⟨#[]⟩ w h)
  clear h
  go_enter Tryz.func24, Tryz.ntmps24
  go_wp2_with (go_at_call 33; (with_reducible refine C.out.mono ?_); rintro e w' ⟨rfl, rfl⟩)
  go_ret
  exact ⟨rfl, rfl⟩
theorem none_is (w : World) (h : IsFs w fb s F) : Calls Tryz.prog 24 #[.pointer (some ⟨fb, 0, none⟩)] w fun e w' => e = .returned (.bool false) ∧ w = w' := by
  obtain ⟨mb, D, G, dp, h⟩ := h
  have hk := reads_empty h.ok
  have C := read_is ⟨#[]⟩ w (by decide) h
  generalize (reads s (⟨#[]⟩ : ByteArray).data.toList).1 = t at C
  generalize (reads s (⟨#[]⟩ : ByteArray).data.toList).2 = k at C hk
  have C := Lib.hid C
  have hb : (k == 1) = false := by simp [hk]
  clear h hk
  go_enter Tryz.func24, Tryz.ntmps24
  go_wp2_with (go_at_call 33; (with_reducible refine C.out.mono ?_); rintro e w' ⟨rfl, rfl⟩)
  go_ret
  exact ⟨rfl, rfl⟩

/-! ### Stop -/
theorem stop_no (p : Option Addr) (w : World) (h : NoFs w p) (hV : ErrT w.heap.size w) :
    Calls Tryz.prog 11 #[.pointer p] w fun e w' => e = .returned (.int .i64 1) ∧ Below w.heap.size w w' := by
  have C := Lib.hid (remove_no p drfB w h)
  have HV := Lib.hid hV
  clear h hV
  go_enter Tryz.func11, Tryz.ntmps11
  go_wp2_with (first
    | (go_at_call 29; (with_reducible refine C.out.mono ?_); rintro e w1 ⟨rfl, hB1⟩)
    | (go_at_call 21; (with_reducible refine (told_is removing 1 _).mono ?_); rintro e w2 ⟨rfl, hB2⟩; have hB12 := hB1.trans (hB2.mono hB1.size); simp only [toldV]; simp only [show ((1 : Int) = 0) = False by simp, if_false])
    | (go_at_call 30; (with_reducible refine (hinders_act 1 (by decide) _ (HV.out.below hB12 (Nat.le_refl _))).mono ?_); rintro e w3 ⟨rfl, hB3⟩; have hB13 := hB12.trans (hB3.mono hB12.size))
    | (go_at_call 27; (with_reducible refine (number_act removing 1 _ (HV.out.below hB13 (Nat.le_refl _))).mono ?_); rintro e w4 ⟨rfl, hB4⟩; have hB14 := hB13.trans (hB4.mono hB13.size)))
  go_ret
  exact ⟨rfl, hB14⟩

/-! ### What a call may have turned -/
theorem went_move {w2 : World} (hW : Went F fb s w w') (hB : Below w'.heap.size w' w2) : Went F fb s w w2 := by
  obtain ⟨hT, F', h1, h2⟩ := hW
  exact ⟨hT.then_below hB, F', h1, h2.below hB⟩
theorem went_next {f : FuncId} {args : Array Value} {r : Ending} (hW : Went F fb s w w') (C : ∀ F', IsFs w' fb s F' → Calls Tryz.prog f args w' fun e w2 => e = r ∧ Went F' fb s' w' w2) :
    Calls Tryz.prog f args w' fun e w2 => e = r ∧ Went F fb s' w w2 := by
  obtain ⟨hT, F', h1, h2⟩ := hW
  exact (C F' h2).mono fun e w2 ⟨he, h3⟩ => ⟨he, Wentz.trans hT h1 h3⟩
theorem ErrT.went (h : ErrT n w) (hF : ∀ b, F b → n ≤ b) (hW : Went F fb s w w') : ErrT n w' := h.below (hW.1.below h.2.1 hF) (Nat.le_refl _)
theorem vars_went (h : frm.Vars n w) (hn : n ≤ w.heap.size) (hF : ∀ b, F b → n ≤ b) (hW : Went F fb s w w') : frm.Vars n w' := h.below (hW.1.below hn hF)

theorem stop_down (w : World) (h : IsFs w fb s F) (ho : s.off = true) (hV : ErrT n w) (hF : ∀ b, F b → n ≤ b) :
    Calls Tryz.prog 11 #[.pointer (some ⟨fb, 0, none⟩)] w fun e w' => e = .returned (.int .i64 51) ∧ Went F fb s w w' := by
  have C := remove_is drfB w (by decide) h
  rw [drfB_list, down_rm ho] at C
  have C := Lib.hid C
  have HV := Lib.hid hV
  have HF := Lib.hid hF
  clear h hV hF ho
  go_enter Tryz.func11, Tryz.ntmps11
  go_wp2_with (first
    | (go_at_call 29; (with_reducible refine C.out.mono ?_); rintro e w1 ⟨rfl, hB1⟩)
    | (go_at_call 21; (with_reducible refine (told_is removing 51 _).mono ?_); rintro e w2 ⟨rfl, hB2⟩; have hB12 := went_move hB1 hB2; simp only [toldV]; simp only [show ((51 : Int) = 0) = False by simp, if_false])
    | (go_at_call 30; (with_reducible refine (hinders_act 51 (by decide) _ (HV.out.went HF.out hB12)).mono ?_); rintro e w3 ⟨rfl, hB3⟩; have hB13 := went_move hB12 hB3)
    | (go_at_call 27; (with_reducible refine (number_act removing 51 _ (HV.out.went HF.out hB13)).mono ?_); rintro e w4 ⟨rfl, hB4⟩; have hB14 := went_move hB13 hB4))
  go_ret
  exact ⟨rfl, hB14⟩
theorem stop_ok (w : World) (h : IsFs w fb s4 F) (hV : ErrT n w) (hF : ∀ b, F b → n ≤ b) :
    Calls Tryz.prog 11 #[.pointer (some ⟨fb, 0, none⟩)] w fun e w' => e = .returned (.int .i64 0) ∧ Went F fb s5 w w' := by
  have C := remove_is drfB w (by decide) h
  rw [drfB_list, rm4] at C
  have C := Lib.hid C
  have C2 : Hid (∀ W F', IsFs W fb s4 F' → Calls Tryz.prog 29 #[.pointer (some ⟨fb, 0, none⟩), .string logB] W fun e w' => e = .returned (.int .i64 0) ∧ Went F' fb s5 W w') := Lib.hid fun W F' h' => by
    have C := remove_is logB W (by decide) h'
    rw [logB_list, rm5] at C
    exact C
  have HV := Lib.hid hV
  have HF := Lib.hid hF
  clear h hV hF
  go_enter Tryz.func11, Tryz.ntmps11
  go_wp2_with (first
    | (go_at_call 29; (with_reducible refine C.out.mono ?_); rintro e w1 ⟨rfl, hB1⟩)
    | (go_at_call 21; (with_reducible refine (told_is removing 4 _).mono ?_); rintro e w2 ⟨rfl, hB2⟩; have hB12 := went_move hB1 hB2; simp only [toldV]; simp only [show ((4 : Int) = 0) = False by simp, if_false])
    | (go_at_call 30; (with_reducible refine (hinders_four _ (HV.out.went HF.out hB12)).mono ?_); rintro e w3 ⟨rfl, hB3⟩; have hB13 := went_move hB12 hB3)
    | (go_at_call 29; (with_reducible refine (went_next hB13 (fun F' h' => C2.out _ F' h')).mono ?_); rintro e w4 ⟨rfl, hB14⟩)
    | (go_at_call 21; (with_reducible refine (told_is removing 0 _).mono ?_); rintro e w5 ⟨rfl, hB5⟩; have hB15 := went_move hB14 hB5; simp only [toldV]; simp only [if_true])
    | (go_at_call 30; (with_reducible refine (hinders_nil _).mono ?_); rintro e w6 ⟨rfl, hB6⟩; have hB16 := went_move hB15 hB6))
  go_ret
  exact ⟨rfl, hB16⟩

/-! ### begin -/
theorem begin_down (t : ByteArray) (w : World) (h : IsFs w fb s F) (ho : s.off = true) (hV : ErrT n w) (hF : ∀ b, F b → n ≤ b) :
    Calls Tryz.prog 26 #[.pointer (some ⟨fb, 0, none⟩), .string t] w fun e w' => e = .returned (actV removing 51) ∧ Went F fb s w w' := by
  have C := remove_is drfB w (by decide) h
  rw [drfB_list, down_rm ho] at C
  have C := Lib.hid C
  have HV := Lib.hid hV
  have HF := Lib.hid hF
  clear h hV hF ho
  go_enter Tryz.func26, Tryz.ntmps26
  go_wp2_with (first
    | (go_at_call 29; (with_reducible refine C.out.mono ?_); rintro e w1 ⟨rfl, hB1⟩)
    | (go_at_call 21; (with_reducible refine (told_is removing 51 _).mono ?_); rintro e w2 ⟨rfl, hB2⟩; have hB12 := went_move hB1 hB2; simp only [toldV]; simp only [show ((51 : Int) = 0) = False by simp, if_false])
    | (go_at_call 30; (with_reducible refine (hinders_act 51 (by decide) _ (HV.out.went HF.out hB12)).mono ?_); rintro e w3 ⟨rfl, hB3⟩; have hB13 := went_move hB12 hB3))
  go_ret
  exact ⟨rfl, hB13⟩
theorem begin_ok (w : World) (h : IsFs w fb s0 F) (hV : ErrT n w) (hF : ∀ b, F b → n ≤ b) :
    Calls Tryz.prog 26 #[.pointer (some ⟨fb, 0, none⟩), .string (B J)] w fun e w' => e = .returned .nilIface ∧ Went F fb s1 w w' := by
  have C := remove_is drfB w (by decide) h
  rw [drfB_list, rm0] at C
  have C := Lib.hid C
  have C2 : Hid (∀ W F', IsFs W fb s0 F' → Calls Tryz.prog 22 #[.pointer (some ⟨fb, 0, none⟩), .string drfB, .string (B J)] W fun e w' => e = .returned (.int .i64 0) ∧ Went F' fb sA W w') := Lib.hid fun W F' h' => by
    have C := append_is drfB (B J) W (by decide) (by rw [B_size]; have := J_len; unfold maxLen; omega) h'
    rw [drfB_list, list_B, app0] at C
    exact C
  have C3 : Hid (∀ W F', IsFs W fb sA F' → Calls Tryz.prog 23 #[.pointer (some ⟨fb, 0, none⟩), .string drfB] W fun e w' => e = .returned (.int .i64 0) ∧ Went F' fb sB W w') := Lib.hid fun W F' h' => by
    have C := sync_is drfB W (by decide) h'
    rw [drfB_list, syn0] at C
    exact C
  have C4 : Hid (∀ W F', IsFs W fb sB F' → Calls Tryz.prog 51 #[.pointer (some ⟨fb, 0, none⟩), .string drfB, .string logB] W fun e w' => e = .returned (.int .i64 0) ∧ Went F' fb s1 W w') := Lib.hid fun W F' h' => by
    have C := rename_is drfB logB W (by decide) (by decide) h'
    rw [drfB_list, logB_list, ren0] at C
    exact C
  have HV := Lib.hid hV
  have HF := Lib.hid hF
  clear h hV hF
  go_enter Tryz.func26, Tryz.ntmps26
  go_wp2_with (first
    | (go_at_call 29; (with_reducible refine C.out.mono ?_); rintro e w1 ⟨rfl, hB1⟩)
    | (go_at_call 21; (with_reducible refine (told_is removing 4 _).mono ?_); rintro e w2 ⟨rfl, hB2⟩; have hB12 := went_move hB1 hB2; simp only [toldV]; simp only [show ((4 : Int) = 0) = False by simp, if_false])
    | (go_at_call 30; (with_reducible refine (hinders_four _ (HV.out.went HF.out hB12)).mono ?_); rintro e w3 ⟨rfl, hB3⟩; have hB13 := went_move hB12 hB3)
    | (go_at_call 22; (with_reducible refine (went_next hB13 (fun F' h' => C2.out _ F' h')).mono ?_); rintro e w4 ⟨rfl, hB14⟩)
    | (go_at_call 21; (with_reducible refine (told_is ⟨#[97, 112, 112, 101, 110, 100]⟩ 0 _).mono ?_); rintro e w5 ⟨rfl, hB5⟩; have hB15 := went_move hB14 hB5; simp only [toldV]; simp only [if_true])
    | (go_at_call 30; (with_reducible refine (hinders_nil _).mono ?_); rintro e w6 ⟨rfl, hB6⟩; have hB16 := went_move hB15 hB6; clear hB15)
    | (go_at_call 23; (with_reducible refine (went_next hB16 (fun F' h' => C3.out _ F' h')).mono ?_); rintro e w7 ⟨rfl, hB17⟩)
    | (go_at_call 21; (with_reducible refine (told_is ⟨#[115, 121, 110, 99]⟩ 0 _).mono ?_); rintro e w8 ⟨rfl, hB8⟩; have hB18 := went_move hB17 hB8; simp only [toldV]; simp only [if_true])
    | (go_at_call 30; (with_reducible refine (hinders_nil _).mono ?_); rintro e w9 ⟨rfl, hB9⟩; have hB19 := went_move hB18 hB9)
    | (go_at_call 51; (with_reducible refine (went_next hB19 (fun F' h' => C4.out _ F' h')).mono ?_); rintro e w10 ⟨rfl, hB110⟩)
    | (go_at_call 21; (with_reducible refine (told_is ⟨#[114, 101, 110, 97, 109, 101]⟩ 0 _).mono ?_); rintro e w11 ⟨rfl, hB11⟩; have hB111 := went_move hB110 hB11; simp only [toldV]; simp only [if_true]))
  go_ret
  exact ⟨rfl, hB111⟩
end
end Go.Proofs.YtmknbakfjhjfmaaGreatDoor.lgs

/-! Logs: a journal; what is asked of one that is none, or over; Sync. -/
namespace Go.Proofs.YtmknbakfjhjfmaaGreatDoor.lgs
open Go.RowKit Go.Lib Go.Proofs.YtmknbakfjhjfmaaGreatDoor.fil Go.Proofs.YtmknbakfjhjfmaaGreatDoor
set_option linter.unusedVariables false
set_option linter.unusedSimpArgs false
set_option linter.unnecessarySimpa false
set_option linter.unusedSectionVars false

/-- A journal's cells. -/
abbrev LogAt (w : World) (xb fb : Nat) (st : Nat) (ov : Bool) : Prop := At w xb 34 #[.pointer (some ⟨fb, 0, none⟩), .int .i64 st, .bool ov]
/-- A journal that is none. -/
def NoLog (w : World) (p : Option Addr) : Prop := p = none ∨ ∃ b, p = some ⟨b, 0, none⟩ ∧ At w b 34 #[.pointer none, .int .i64 0, .bool false]

section
variable {n fb xb : Nat} {w0 w w' : World} {s s' : St} {F : Nat → Prop} {st : Nat} {ov : Bool}
theorem log_no (p : Option Addr) (w : World) (h : NoLog w p) : Calls Tryz.prog 17 #[.pointer p] w fun e w' => e = .returned (.int .i64 1) ∧ Below w.heap.size w w' := by
  rcases h with rfl | ⟨b, rfl, hA⟩
  · go_enter Tryz.func17, Tryz.ntmps17
    go_wp2
    go_ret
    exact ⟨rfl, Below.refl _ _⟩
  · have c0 := hA.cell 0
    go_enter Tryz.func17, Tryz.ntmps17
    go_wp2
    go_ret
    exact ⟨rfl, Below.refl _ _⟩
/-- A journal's cells, and all that lay there. -/
def Stays (xb fb st : Nat) (w W : World) : Prop := (W.cell? ⟨xb, 0, none⟩ = some (.pointer (some ⟨fb, 0, none⟩)) ∧ W.cell? ⟨xb, 1, none⟩ = some (.int .i64 st) ∧ W.cell? ⟨xb, 2, none⟩ = some (.bool false)) ∧ fil.More w.heap.size w W
theorem up_stays (b : Bool) (w : World) (h : IsFs w fb s F) (ho : s.off = !b) (W : World) (hS : Stays xb fb st w W) : Calls Tryz.prog 36 #[.pointer (some ⟨fb, 0, none⟩)] W fun e w' => e = .returned (.bool b) ∧ Stays xb fb st w w' := by
  have hI : IsFs W fb s F := h.below hS.2
  obtain ⟨mb, D, G, dp, hI⟩ := hI
  refine (up_is W hI).mono ?_
  rintro e w' ⟨rfl, rfl⟩
  exact ⟨by rw [ho, Bool.not_not], hS⟩
theorem starts_stays (w : World) (h : IsFs w fb s F) (hs : s.starts = st) (W : World) (hS : Stays xb fb st w W) : Calls Tryz.prog 28 #[.pointer (some ⟨fb, 0, none⟩)] W fun e w' => e = .returned (.int .i64 st) ∧ Stays xb fb st w w' := by
  have hI : IsFs W fb s F := h.below hS.2
  obtain ⟨mb, D, G, dp, hI⟩ := hI
  refine (starts_is W hI).mono ?_
  rintro e w' ⟨rfl, rfl⟩
  exact ⟨by rw [hs], hS⟩
set_option maxHeartbeats 4000000 in
set_option maxRecDepth 100000 in
theorem log_ok (w : World) (hL : LogAt w xb fb st false) (h : IsFs w fb s F) (ho : s.off = false) (hs : s.starts = st) : Calls Tryz.prog 17 #[.pointer (some ⟨xb, 0, none⟩)] w fun e w' => e = .returned (.int .i64 0) ∧ Below w.heap.size w w' := by
  have C1 := Lib.hid (up_stays (xb := xb) (st := st) true w h ho)
  have C2 := Lib.hid (starts_stays (xb := xb) (st := st) w h hs)
  have c0 : w.cell? ⟨xb, 0, none⟩ = some (.pointer (some ⟨fb, 0, none⟩)) := hL.cell 0
  have c1 : w.cell? ⟨xb, 1, none⟩ = some (.int .i64 st) := hL.cell 1
  have c2 : w.cell? ⟨xb, 2, none⟩ = some (.bool false) := hL.cell 2
  have S1 : fil.More w.heap.size w w.drew := (Below.refl _ _).drew
  unfold Stays at C1 C2
  have hz : ((st : Int) != (st : Int)) = false := by simp
  clear h ho hs hL
  go_enter Tryz.func17, Tryz.ntmps17
  go_wp2
  go_region_held3 (fun W => (W.cell? ⟨xb, 0, none⟩ = some (.pointer (some ⟨fb, 0, none⟩)) ∧ W.cell? ⟨xb, 1, none⟩ = some (.int .i64 st) ∧ W.cell? ⟨xb, 2, none⟩ = some (.bool false)) ∧ fil.More w.heap.size w W) (first | assumption | exact ⟨⟨by assumption, by assumption, by assumption⟩, by assumption⟩)
    (first
      | (go_at_call 36; refine (C1.out _ ?_).mono ?_; (assumption); rintro e w' ⟨rfl, hS⟩)
      | (go_at_call 28; refine (C2.out _ ?_).mono ?_; (assumption); rintro e w' ⟨rfl, hS⟩))
  all_goals
    rename_i hS
    have hE : Below w.heap.size w _ := hS.2
    go_wp2
    go_ret
    exact ⟨rfl, hE⟩
set_option maxHeartbeats 4000000 in
set_option maxRecDepth 100000 in
theorem log_down (w : World) (hL : LogAt w xb fb st false) (h : IsFs w fb s F) (ho : s.off = true) : Calls Tryz.prog 17 #[.pointer (some ⟨xb, 0, none⟩)] w fun e w' => e = .returned (.int .i64 51) ∧ Below w.heap.size w w' := by
  have C1 := Lib.hid (up_stays (xb := xb) (st := st) false w h ho)
  have c0 : w.cell? ⟨xb, 0, none⟩ = some (.pointer (some ⟨fb, 0, none⟩)) := hL.cell 0
  have c1 : w.cell? ⟨xb, 1, none⟩ = some (.int .i64 st) := hL.cell 1
  have c2 : w.cell? ⟨xb, 2, none⟩ = some (.bool false) := hL.cell 2
  have S1 : fil.More w.heap.size w w.drew := (Below.refl _ _).drew
  unfold Stays at C1
  clear h ho hL
  go_enter Tryz.func17, Tryz.ntmps17
  go_wp2
  refine wp_region_noPanic ?_
  refine wp_region_held_drew (S := (fun W => (W.cell? ⟨xb, 0, none⟩ = some (.pointer (some ⟨fb, 0, none⟩)) ∧ W.cell? ⟨xb, 1, none⟩ = some (.int .i64 st) ∧ W.cell? ⟨xb, 2, none⟩ = some (.bool false)) ∧ fil.More w.heap.size w W)) (by kernel_rfl) (by (try dsimp only); first | assumption | exact ⟨⟨by assumption, by assumption, by assumption⟩, by assumption⟩) (fun hHeld => ?_)
  refine held.take (i := 0) (v := _) rfl (by kernel_rfl) (by kernel_rfl) (by kernel_rfl) (fun _ _ _ h => h) (Or.inl ⟨by rfl, fun _ _ => rfl⟩) (by assumption) ?_
  (try simp only [Act.put, List.setIfInBounds_toArray, List.set_cons_zero, List.set_cons_succ])
  refine held.take (i := 1) (v := .pointer (some ⟨xb, 0, none⟩)) rfl (by kernel_rfl) (by kernel_rfl) (by kernel_rfl) (fun _ _ _ h => h) (Or.inl ⟨by rfl, fun W hW => by (try dsimp only at hW); go_simp⟩) (by assumption) ?_
  (try simp only [Act.put, List.setIfInBounds_toArray, List.set_cons_zero, List.set_cons_succ])
  refine held.take (i := 2) (v := .pointer (some ⟨xb, 2, none⟩)) rfl (by kernel_rfl) (by kernel_rfl) (by kernel_rfl) (fun _ _ _ h => h) (Or.inl ⟨by rfl, fun W hW => by (try dsimp only at hW); go_simp⟩) (by assumption) ?_
  (try simp only [Act.put, List.setIfInBounds_toArray, List.set_cons_zero, List.set_cons_succ])
  refine held.take (i := 3) (v := .bool false) rfl (by kernel_rfl) (by kernel_rfl) (by kernel_rfl) (fun _ _ _ h => h) (Or.inl ⟨by rfl, fun W hW => by (try dsimp only at hW); obtain ⟨⟨d0, d1, d2⟩, _⟩ := hW; go_simp⟩) (by assumption) ?_
  (try simp only [Act.put, List.setIfInBounds_toArray, List.set_cons_zero, List.set_cons_succ])
  refine held.take (i := 4) (v := _) rfl (by kernel_rfl) (by kernel_rfl) (by kernel_rfl) (fun _ _ _ h => h) (Or.inl ⟨by rfl, fun _ _ => rfl⟩) (by assumption) ?_
  (try simp only [Act.put, List.setIfInBounds_toArray, List.set_cons_zero, List.set_cons_succ])
  refine held.take (i := 5) (v := _) rfl (by kernel_rfl) (by kernel_rfl) (by kernel_rfl) (fun _ _ _ h => h) (Or.inl ⟨by rfl, fun _ _ => rfl⟩) (by assumption) ?_
  (try simp only [Act.put, List.setIfInBounds_toArray, List.set_cons_zero, List.set_cons_succ])
  refine held.take (i := 6) (v := .pointer (some ⟨xb, 0, none⟩)) rfl (by kernel_rfl) (by kernel_rfl) (by kernel_rfl) (fun _ _ _ h => h) (Or.inl ⟨by rfl, fun W hW => by (try dsimp only at hW); go_simp⟩) (by assumption) ?_
  (try simp only [Act.put, List.setIfInBounds_toArray, List.set_cons_zero, List.set_cons_succ])
  refine held.take (i := 7) (v := .pointer (some ⟨xb, 0, none⟩)) rfl (by kernel_rfl) (by kernel_rfl) (by kernel_rfl) (fun _ _ _ h => h) (Or.inl ⟨by rfl, fun W hW => by (try dsimp only at hW); go_simp⟩) (by assumption) ?_
  (try simp only [Act.put, List.setIfInBounds_toArray, List.set_cons_zero, List.set_cons_succ])
  refine held.take (i := 8) (v := .pointer (some ⟨fb, 0, none⟩)) rfl (by kernel_rfl) (by kernel_rfl) (by kernel_rfl) (fun _ _ _ h => h) (Or.inl ⟨by rfl, fun W hW => by (try dsimp only at hW); obtain ⟨⟨d0, d1, d2⟩, _⟩ := hW; go_simp⟩) (by assumption) ?_
  (try simp only [Act.put, List.setIfInBounds_toArray, List.set_cons_zero, List.set_cons_succ])
  refine held.only (i := 9) (by kernel_rfl) rfl (fun K hK => ?_)
  go_simp
  go_at_call 36
  refine (C1.out _ (by assumption)).mono ?_
  rintro e w1 ⟨rfl, hS⟩
  refine hK.out _ _ (by (try dsimp only); first | assumption | exact ⟨⟨by assumption, by assumption, by assumption⟩, by assumption⟩) (fun hHeld => ?_)
  clear hK K
  (try simp only [Act.put, List.setIfInBounds_toArray, List.set_cons_zero, List.set_cons_succ])
  refine held.take (i := 10) (v := .bool true) rfl (by kernel_rfl) (by kernel_rfl) (by kernel_rfl) (fun _ _ _ h => h) (Or.inl ⟨by rfl, fun W hW => by (try dsimp only at hW); go_simp⟩) (by assumption) ?_
  (try simp only [Act.put, List.setIfInBounds_toArray, List.set_cons_zero, List.set_cons_succ])
  refine held.take (i := 11) (v := .bool true) rfl (by kernel_rfl) (by kernel_rfl) (by kernel_rfl) (fun _ _ _ h => h) (Or.inl ⟨by rfl, fun W hW => by (try dsimp only at hW); go_simp⟩) (by assumption) ?_
  (try simp only [Act.put, List.setIfInBounds_toArray, List.set_cons_zero, List.set_cons_succ])
  refine held.take (i := 12) (v := _) rfl (by kernel_rfl) (by kernel_rfl) (by kernel_rfl) (fun _ _ _ h => h) (Or.inl ⟨by rfl, fun _ _ => rfl⟩) (by assumption) ?_
  (try simp only [Act.put, List.setIfInBounds_toArray, List.set_cons_zero, List.set_cons_succ])
  refine held.take (i := 13) (v := undef) rfl (by kernel_rfl) (by kernel_rfl) (by kernel_rfl) (fun _ _ _ h => h) (Or.inr ⟨by rfl, rfl⟩) (by assumption) ?_
  (try simp only [Act.put, List.setIfInBounds_toArray, List.set_cons_zero, List.set_cons_succ])
  refine held.take (i := 14) (v := undef) rfl (by kernel_rfl) (by kernel_rfl) (by kernel_rfl) (fun _ _ _ h => h) (Or.inr ⟨by rfl, rfl⟩) (by assumption) ?_
  (try simp only [Act.put, List.setIfInBounds_toArray, List.set_cons_zero, List.set_cons_succ])
  refine held.take (i := 15) (v := undef) rfl (by kernel_rfl) (by kernel_rfl) (by kernel_rfl) (fun _ _ _ h => h) (Or.inr ⟨by rfl, rfl⟩) (by assumption) ?_
  (try simp only [Act.put, List.setIfInBounds_toArray, List.set_cons_zero, List.set_cons_succ])
  refine held.take (i := 16) (v := undef) rfl (by kernel_rfl) (by kernel_rfl) (by kernel_rfl) (fun _ _ _ h => h) (Or.inr ⟨by rfl, rfl⟩) (by assumption) ?_
  (try simp only [Act.put, List.setIfInBounds_toArray, List.set_cons_zero, List.set_cons_succ])
  refine held.take (i := 17) (v := undef) rfl (by kernel_rfl) (by kernel_rfl) (by kernel_rfl) (fun _ _ _ h => h) (Or.inr ⟨by rfl, rfl⟩) (by assumption) ?_
  (try simp only [Act.put, List.setIfInBounds_toArray, List.set_cons_zero, List.set_cons_succ])
  refine held.take (i := 18) (v := undef) rfl (by kernel_rfl) (by kernel_rfl) (by kernel_rfl) (fun _ _ _ h => h) (Or.inr ⟨by rfl, rfl⟩) (by assumption) ?_
  (try simp only [Act.put, List.setIfInBounds_toArray, List.set_cons_zero, List.set_cons_succ])
  refine held.take (i := 19) (v := undef) rfl (by kernel_rfl) (by kernel_rfl) (by kernel_rfl) (fun _ _ _ h => h) (Or.inr ⟨by rfl, rfl⟩) (by assumption) ?_
  (try simp only [Act.put, List.setIfInBounds_toArray, List.set_cons_zero, List.set_cons_succ])
  refine held.take (i := 20) (v := undef) rfl (by kernel_rfl) (by kernel_rfl) (by kernel_rfl) (fun _ _ _ h => h) (Or.inr ⟨by rfl, rfl⟩) (by assumption) ?_
  (try simp only [Act.put, List.setIfInBounds_toArray, List.set_cons_zero, List.set_cons_succ])
  refine held.take (i := 21) (v := undef) rfl (by kernel_rfl) (by kernel_rfl) (by kernel_rfl) (fun _ _ _ h => h) (Or.inr ⟨by rfl, rfl⟩) (by assumption) ?_
  (try simp only [Act.put, List.setIfInBounds_toArray, List.set_cons_zero, List.set_cons_succ])
  refine held.take (i := 22) (v := undef) rfl (by kernel_rfl) (by kernel_rfl) (by kernel_rfl) (fun _ _ _ h => h) (Or.inr ⟨by rfl, rfl⟩) (by assumption) ?_
  (try simp only [Act.put, List.setIfInBounds_toArray, List.set_cons_zero, List.set_cons_succ])
  refine held.take (i := 23) (v := .bool true) rfl (by kernel_rfl) (by kernel_rfl) (by kernel_rfl) (fun _ _ _ h => h) (Or.inl ⟨by rfl, fun W hW => by (try dsimp only at hW); go_simp⟩) (by assumption) ?_
  (try simp only [Act.put, List.setIfInBounds_toArray, List.set_cons_zero, List.set_cons_succ])
  refine wpAnyH_done (by kernel_rfl) ?_ _
  refine NoPanic.normal ?_
  rename_i hS
  have hE : Below w.heap.size w _ := hS.2
  go_wp2
  go_ret
  exact ⟨rfl, hE⟩
end
end Go.Proofs.YtmknbakfjhjfmaaGreatDoor.lgs
