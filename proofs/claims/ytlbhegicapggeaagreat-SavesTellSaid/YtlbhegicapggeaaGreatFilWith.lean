/- Files, the laws: what is done to a file system, one thing of it. -/
import Derived.Test.YtlbhegicapggeaaGreatFilFail
namespace Go.Proofs.YtlbhegicapggeaaGreat.fil
open Go.RowKit Go.Lib Go.Maps Go.WideMaps
set_option linter.unusedVariables false
set_option linter.unusedSimpArgs false
set_option linter.unnecessarySimpa false
set_option linter.unusedSectionVars false

/-- A thing that is done. -/
structure Dt where
  what : Nat
  a : ByteArray
  b : ByteArray
  t : ByteArray
  n : Int
  kA : Option Addr
  kc : Nat
  k : List Int
def Dt.cells (d : Dt) : List Value := [.int .u8 d.what, .string d.a, .string d.b, .string d.t, .int .i64 d.n, .slice d.kA d.k.length d.kc]
def Dt.val (d : Dt) : Value := .agg #[.int .u8 d.what, .string d.a, .string d.b, .string d.t, .int .i64 d.n, .slice d.kA d.k.length d.kc]
structure Dt.Ok (d : Dt) : Prop where
  what : d.what < 256
  a : d.a.size ≤ maxLen
  b : d.b.size ≤ maxLen
  t : d.t.size ≤ maxLen
  n1 : -9223372036854775808 ≤ d.n
  n2 : d.n ≤ 9223372036854775807
  k : d.k.length ≤ d.kc
  kc : d.kc ≤ maxLen

def step (s : St) (d : Dt) : Int × St :=
  if d.what % 12 = 3 ∨ d.what % 12 = 4 then sSync s d.a.data.toList
  else if d.what % 12 = 5 then sTrunc s d.a.data.toList d.n
  else if d.what % 12 = 6 then sRename s d.a.data.toList d.b.data.toList
  else if d.what % 12 = 7 then sRemove s d.a.data.toList
  else if d.what % 12 = 8 then sCrash s d.k
  else if d.what % 12 = 9 ∨ d.what % 12 = 10 then sStart s
  else if d.what % 12 = 11 then sFail s d.n d.k
  else sAppend s d.a.data.toList d.t.data.toList
theorem ok_step {s : St} (h : Ok s) {d : Dt} (hd : d.Ok) : Ok (step s d).2 := by
  unfold step
  repeat' split
  · exact ok_sync h _
  · exact ok_trunc h _ _
  · exact ok_rename h _ _
  · exact ok_remove h _
  · exact ok_sCrash h _
  · exact ok_start h
  · exact ok_fail h _ _ hd.n2
  · exact ok_append h _ _
theorem stroke_starts (s : St) (e : Int) (early : Bool) (t : List Fl) : (stroke s e early t).2.starts = s.starts := by
  unfold stroke crash
  repeat' split
  all_goals rfl
theorem step_starts (s : St) (d : Dt) : (step s d).2.starts ≤ s.starts + 1 := by
  unfold step sSync sTrunc sRename sRemove sAppend
  repeat' split
  all_goals first
    | (rw [stroke_starts]; omega)
    | (unfold sCrash crash; split <;> simp)
    | (unfold sStart; split <;> simp)
    | (unfold sFail; repeat' split
       all_goals simp)

section
variable {w w' : World} {F : Nat → Prop} {fb : Nat} {s : St}
set_option maxHeartbeats 4000000 in
set_option maxRecDepth 100000 in
theorem with_is (d : Dt) (lo hi : Nat) (w : World) (hd : d.Ok) (hk : LRd w lo hi d.kA (iv d.k)) (hF : ∀ b, F b → b < lo ∨ hi ≤ b) (hs : s.starts ≤ 1000000) (h : IsFs w fb s F) :
    Calls Tryz.prog 13 #[.pointer (some ⟨fb, 0, none⟩), d.val] w fun e w' => e = .returned (.int .i64 (step s d).1) ∧ Went F fb (step s d).2 w w' := by
  obtain ⟨what, a, b, t, n, kA, kc, k⟩ := d
  obtain ⟨h1, h2, h3, h4, h5, h6, h7, h8⟩ := hd
  simp only at h1 h2 h3 h4 h5 h6 h7 h8 hk
  have h8' : kc ≤ 9223372036854775807 := by unfold maxLen at h8; omega
  have hB : Below w.heap.size w (w.alloc (.cells #[.int .u8 what, .string a, .string b, .string t, .int .i64 n, .slice kA k.length kc] 34)) := (Below.refl _ _).alloc (Nat.le_refl _) _
  have h' := h.below hB
  have hk' := hk.below hB
  have C1 := Lib.hid ((sync_is a _ h2 h').mono fun e w' hh => And.intro hh.1 (hh.2.after hB))
  have C2 := Lib.hid ((trunc_is a n _ h2 h').mono fun e w' hh => And.intro hh.1 (hh.2.after hB))
  have C3 := Lib.hid ((rename_is a b _ h2 h3 h').mono fun e w' hh => And.intro hh.1 (hh.2.after hB))
  have C4 := Lib.hid ((remove_is a _ h2 h').mono fun e w' hh => And.intro hh.1 (hh.2.after hB))
  have C5 := Lib.hid ((crash_is kA kc lo hi k _ (by omega) hk' hF h').mono fun e w' hh => And.intro hh.1 (hh.2.after hB))
  have C6 := Lib.hid ((start_is _ hs h').mono fun e w' hh => And.intro hh.1 (hh.2.after hB))
  have C7 := Lib.hid ((fail_is kA kc lo hi n k _ h7 h8' h6 hk' h').mono fun e w' hh => And.intro hh.1 (hh.2.after hB))
  have C8 := Lib.hid ((append_is a t _ h2 h4 h').mono fun e w' hh => And.intro hh.1 (hh.2.after hB))
  unfold step Dt.val
  simp only
  clear h h' hk hk' hF hB h2 h3 h4 h5 h6 h7 h8 h8' hs
  obtain ⟨m, hm, hm12⟩ : ∃ m, what % 12 = m ∧ m < 12 := ⟨_, rfl, by omega⟩
  have hz : (what : Int) % 12 = (m : Int) := by omega
  rw [hm]
  clear hm
  have hz' := hz
  clear hz
  match m, hm12, hz' with
  | 0, _, hz =>
    show Calls _ _ _ _ fun e w' => e = .returned (.int .i64 (sAppend s a.data.toList t.data.toList).1) ∧ Went F fb (sAppend s a.data.toList t.data.toList).2 w w'
    clear C1 C2 C3 C4 C5 C6 C7
    go_enter Tryz.func13, Tryz.ntmps13
    go_wp2_with (go_at_call 29; refine C8.out.mono ?_; rintro e w' ⟨rfl, hW⟩)
    go_ret
    exact ⟨rfl, hW⟩
  | 1, _, hz =>
    show Calls _ _ _ _ fun e w' => e = .returned (.int .i64 (sAppend s a.data.toList t.data.toList).1) ∧ Went F fb (sAppend s a.data.toList t.data.toList).2 w w'
    clear C1 C2 C3 C4 C5 C6 C7
    go_enter Tryz.func13, Tryz.ntmps13
    go_wp2_with (go_at_call 29; refine C8.out.mono ?_; rintro e w' ⟨rfl, hW⟩)
    go_ret
    exact ⟨rfl, hW⟩
  | 2, _, hz =>
    show Calls _ _ _ _ fun e w' => e = .returned (.int .i64 (sAppend s a.data.toList t.data.toList).1) ∧ Went F fb (sAppend s a.data.toList t.data.toList).2 w w'
    clear C1 C2 C3 C4 C5 C6 C7
    go_enter Tryz.func13, Tryz.ntmps13
    go_wp2_with (go_at_call 29; refine C8.out.mono ?_; rintro e w' ⟨rfl, hW⟩)
    go_ret
    exact ⟨rfl, hW⟩
  | 3, _, hz =>
    show Calls _ _ _ _ fun e w' => e = .returned (.int .i64 (sSync s a.data.toList).1) ∧ Went F fb (sSync s a.data.toList).2 w w'
    clear C2 C3 C4 C5 C6 C7 C8
    go_enter Tryz.func13, Tryz.ntmps13
    go_wp2_with (go_at_call 31; refine C1.out.mono ?_; rintro e w' ⟨rfl, hW⟩)
    go_ret
    exact ⟨rfl, hW⟩
  | 4, _, hz =>
    show Calls _ _ _ _ fun e w' => e = .returned (.int .i64 (sSync s a.data.toList).1) ∧ Went F fb (sSync s a.data.toList).2 w w'
    clear C2 C3 C4 C5 C6 C7 C8
    go_enter Tryz.func13, Tryz.ntmps13
    go_wp2_with (go_at_call 31; refine C1.out.mono ?_; rintro e w' ⟨rfl, hW⟩)
    go_ret
    exact ⟨rfl, hW⟩
  | 5, _, hz =>
    show Calls _ _ _ _ fun e w' => e = .returned (.int .i64 (sTrunc s a.data.toList n).1) ∧ Went F fb (sTrunc s a.data.toList n).2 w w'
    clear C1 C3 C4 C5 C6 C7 C8
    go_enter Tryz.func13, Tryz.ntmps13
    go_wp2_with (go_at_call 37; refine C2.out.mono ?_; rintro e w' ⟨rfl, hW⟩)
    go_ret
    exact ⟨rfl, hW⟩
  | 6, _, hz =>
    show Calls _ _ _ _ fun e w' => e = .returned (.int .i64 (sRename s a.data.toList b.data.toList).1) ∧ Went F fb (sRename s a.data.toList b.data.toList).2 w w'
    clear C1 C2 C4 C5 C6 C7 C8
    go_enter Tryz.func13, Tryz.ntmps13
    go_wp2_with (go_at_call 33; refine C3.out.mono ?_; rintro e w' ⟨rfl, hW⟩)
    go_ret
    exact ⟨rfl, hW⟩
  | 7, _, hz =>
    show Calls _ _ _ _ fun e w' => e = .returned (.int .i64 (sRemove s a.data.toList).1) ∧ Went F fb (sRemove s a.data.toList).2 w w'
    clear C1 C2 C3 C5 C6 C7 C8
    go_enter Tryz.func13, Tryz.ntmps13
    go_wp2_with (go_at_call 22; refine C4.out.mono ?_; rintro e w' ⟨rfl, hW⟩)
    go_ret
    exact ⟨rfl, hW⟩
  | 8, _, hz =>
    show Calls _ _ _ _ fun e w' => e = .returned (.int .i64 (sCrash s k).1) ∧ Went F fb (sCrash s k).2 w w'
    clear C1 C2 C3 C4 C6 C7 C8
    go_enter Tryz.func13, Tryz.ntmps13
    go_wp2_with (go_at_call 38; refine C5.out.mono ?_; rintro e w' ⟨rfl, hW⟩)
    go_ret
    exact ⟨rfl, hW⟩
  | 9, _, hz =>
    show Calls _ _ _ _ fun e w' => e = .returned (.int .i64 (sStart s).1) ∧ Went F fb (sStart s).2 w w'
    clear C1 C2 C3 C4 C5 C7 C8
    go_enter Tryz.func13, Tryz.ntmps13
    go_wp2_with (go_at_call 39; refine C6.out.mono ?_; rintro e w' ⟨rfl, hW⟩)
    go_ret
    exact ⟨rfl, hW⟩
  | 10, _, hz =>
    show Calls _ _ _ _ fun e w' => e = .returned (.int .i64 (sStart s).1) ∧ Went F fb (sStart s).2 w w'
    clear C1 C2 C3 C4 C5 C7 C8
    go_enter Tryz.func13, Tryz.ntmps13
    go_wp2_with (go_at_call 39; refine C6.out.mono ?_; rintro e w' ⟨rfl, hW⟩)
    go_ret
    exact ⟨rfl, hW⟩
  | 11, _, hz =>
    show Calls _ _ _ _ fun e w' => e = .returned (.int .i64 (sFail s n k).1) ∧ Went F fb (sFail s n k).2 w w'
    clear C1 C2 C3 C4 C5 C6 C8
    go_enter Tryz.func13, Tryz.ntmps13
    go_wp2_with (go_at_call 40; refine C7.out.mono ?_; rintro e w' ⟨rfl, hW⟩)
    go_ret
    exact ⟨rfl, hW⟩
  | m + 12, h, _ => omega
end
end Go.Proofs.YtlbhegicapggeaaGreat.fil
