/- Files: the document's own system: what is done to it. -/
import Derived.Test.YtlbhegicapggeaaGreatFilRefApp
import Derived.Test.YtlbhegicapggeaaGreatFilWith
namespace Go.Proofs.YtlbhegicapggeaaGreat.fil
open Go.RowKit Go.Lib Go.Maps Go.WideMaps
set_option linter.unusedVariables false
set_option linter.unusedSimpArgs false
set_option linter.unnecessarySimpa false
set_option linter.unusedSectionVars false

section
variable {w w' : World} {F : Nat → Prop} {rb : Nat} {s : St}
set_option maxHeartbeats 4000000 in
set_option maxRecDepth 100000 in
theorem by_is (d : Dt) (lo hi : Nat) (w : World) (hd : d.Ok) (hk : LRd w lo hi d.kA (iv d.k)) (hF : ∀ b, F b → b < lo ∨ hi ≤ b) (hs : s.starts ≤ 1000000) (htm0 : d.t.size ≤ 1000000) (hkm0 : d.k.length ≤ 1000000) (hnil0 : d.kA = none → d.kc = 0) (h : RIs w rb s F) :
    Calls Tryz.prog 14 #[.pointer (some ⟨rb, 0, none⟩), d.val] w fun e w' => e = .returned (.int .i64 (step s d).1) ∧ RWent F rb (step s d).2 w w' := by
  obtain ⟨what, a, b, t, n, kA, kc, k⟩ := d
  obtain ⟨h1, h2, h3, h4, h5, h6, h7, h8⟩ := hd
  simp only at h1 h2 h3 h4 h5 h6 h7 h8 hk htm0 hkm0 hnil0
  have htm := htm0
  have hkm := hkm0
  have hnil := hnil0
  clear htm0 hkm0 hnil0
  have h8' : kc ≤ 9223372036854775807 := by unfold maxLen at h8; omega
  have hB : Below w.heap.size w (w.alloc (.cells #[.int .u8 what, .string a, .string b, .string t, .int .i64 n, .slice kA k.length kc] 34)) := (Below.refl _ _).alloc (Nat.le_refl _) _
  have h' := h.below hB
  have hk' := hk.below hB
  have C1 := Lib.hid ((refSync_is a _ h2 h').mono fun e w' hh => And.intro hh.1 (hh.2.after hB))
  have C2 := Lib.hid ((refTrunc_is a n _ h2 h').mono fun e w' hh => And.intro hh.1 (hh.2.after hB))
  have C3 := Lib.hid ((refRename_is a b _ h2 h3 h').mono fun e w' hh => And.intro hh.1 (hh.2.after hB))
  have C4 := Lib.hid ((refRemove_is a _ h2 h').mono fun e w' hh => And.intro hh.1 (hh.2.after hB))
  have C5 := Lib.hid ((refCrash_went kA kc lo hi k _ (by omega) hk' hF h').mono fun e w' hh => And.intro hh.1 (hh.2.after hB))
  have C6 := Lib.hid ((refStart_is _ hs h').mono fun e w' hh => And.intro hh.1 (hh.2.after hB))
  have C7 := Lib.hid ((refFail_is kA kc lo hi n k _ h7 hkm h6 hnil hk' hF h').mono fun e w' hh => And.intro hh.1 (hh.2.after hB))
  have C8 := Lib.hid ((refAppend_is a t _ h2 htm h').mono fun e w' hh => And.intro hh.1 (hh.2.after hB))
  unfold step Dt.val
  simp only
  clear h h' hk hk' hF hB h2 h3 h4 h5 h6 h7 h8 h8' hs htm hkm hnil
  obtain ⟨m, hm, hm12⟩ : ∃ m, what % 12 = m ∧ m < 12 := ⟨_, rfl, by omega⟩
  have hz : (what : Int) % 12 = (m : Int) := by omega
  rw [hm]
  clear hm
  have hz' := hz
  clear hz
  match m, hm12, hz' with
  | 0, _, hz =>
    show Calls _ _ _ _ fun e w' => e = .returned (.int .i64 (sAppend s a.data.toList t.data.toList).1) ∧ RWent F rb (sAppend s a.data.toList t.data.toList).2 w w'
    clear C1 C2 C3 C4 C5 C6 C7
    go_enter Tryz.func14, Tryz.ntmps14
    go_wp2_with (go_at_call 34; refine C8.out.mono ?_; rintro e w' ⟨rfl, hW⟩)
    go_ret
    exact ⟨rfl, hW⟩
  | 1, _, hz =>
    show Calls _ _ _ _ fun e w' => e = .returned (.int .i64 (sAppend s a.data.toList t.data.toList).1) ∧ RWent F rb (sAppend s a.data.toList t.data.toList).2 w w'
    clear C1 C2 C3 C4 C5 C6 C7
    go_enter Tryz.func14, Tryz.ntmps14
    go_wp2_with (go_at_call 34; refine C8.out.mono ?_; rintro e w' ⟨rfl, hW⟩)
    go_ret
    exact ⟨rfl, hW⟩
  | 2, _, hz =>
    show Calls _ _ _ _ fun e w' => e = .returned (.int .i64 (sAppend s a.data.toList t.data.toList).1) ∧ RWent F rb (sAppend s a.data.toList t.data.toList).2 w w'
    clear C1 C2 C3 C4 C5 C6 C7
    go_enter Tryz.func14, Tryz.ntmps14
    go_wp2_with (go_at_call 34; refine C8.out.mono ?_; rintro e w' ⟨rfl, hW⟩)
    go_ret
    exact ⟨rfl, hW⟩
  | 3, _, hz =>
    show Calls _ _ _ _ fun e w' => e = .returned (.int .i64 (sSync s a.data.toList).1) ∧ RWent F rb (sSync s a.data.toList).2 w w'
    clear C2 C3 C4 C5 C6 C7 C8
    go_enter Tryz.func14, Tryz.ntmps14
    go_wp2_with (go_at_call 35; refine C1.out.mono ?_; rintro e w' ⟨rfl, hW⟩)
    go_ret
    exact ⟨rfl, hW⟩
  | 4, _, hz =>
    show Calls _ _ _ _ fun e w' => e = .returned (.int .i64 (sSync s a.data.toList).1) ∧ RWent F rb (sSync s a.data.toList).2 w w'
    clear C2 C3 C4 C5 C6 C7 C8
    go_enter Tryz.func14, Tryz.ntmps14
    go_wp2_with (go_at_call 35; refine C1.out.mono ?_; rintro e w' ⟨rfl, hW⟩)
    go_ret
    exact ⟨rfl, hW⟩
  | 5, _, hz =>
    show Calls _ _ _ _ fun e w' => e = .returned (.int .i64 (sTrunc s a.data.toList n).1) ∧ RWent F rb (sTrunc s a.data.toList n).2 w w'
    clear C1 C3 C4 C5 C6 C7 C8
    go_enter Tryz.func14, Tryz.ntmps14
    go_wp2_with (go_at_call 41; refine C2.out.mono ?_; rintro e w' ⟨rfl, hW⟩)
    go_ret
    exact ⟨rfl, hW⟩
  | 6, _, hz =>
    show Calls _ _ _ _ fun e w' => e = .returned (.int .i64 (sRename s a.data.toList b.data.toList).1) ∧ RWent F rb (sRename s a.data.toList b.data.toList).2 w w'
    clear C1 C2 C4 C5 C6 C7 C8
    go_enter Tryz.func14, Tryz.ntmps14
    go_wp2_with (go_at_call 36; refine C3.out.mono ?_; rintro e w' ⟨rfl, hW⟩)
    go_ret
    exact ⟨rfl, hW⟩
  | 7, _, hz =>
    show Calls _ _ _ _ fun e w' => e = .returned (.int .i64 (sRemove s a.data.toList).1) ∧ RWent F rb (sRemove s a.data.toList).2 w w'
    clear C1 C2 C3 C5 C6 C7 C8
    go_enter Tryz.func14, Tryz.ntmps14
    go_wp2_with (go_at_call 24; refine C4.out.mono ?_; rintro e w' ⟨rfl, hW⟩)
    go_ret
    exact ⟨rfl, hW⟩
  | 8, _, hz =>
    show Calls _ _ _ _ fun e w' => e = .returned (.int .i64 (sCrash s k).1) ∧ RWent F rb (sCrash s k).2 w w'
    clear C1 C2 C3 C4 C6 C7 C8
    go_enter Tryz.func14, Tryz.ntmps14
    go_wp2_with (go_at_call 42; refine C5.out.mono ?_; rintro e w' ⟨rfl, hW⟩)
    go_ret
    exact ⟨rfl, hW⟩
  | 9, _, hz =>
    show Calls _ _ _ _ fun e w' => e = .returned (.int .i64 (sStart s).1) ∧ RWent F rb (sStart s).2 w w'
    clear C1 C2 C3 C4 C5 C7 C8
    go_enter Tryz.func14, Tryz.ntmps14
    go_wp2_with (go_at_call 43; refine C6.out.mono ?_; rintro e w' ⟨rfl, hW⟩)
    go_ret
    exact ⟨rfl, hW⟩
  | 10, _, hz =>
    show Calls _ _ _ _ fun e w' => e = .returned (.int .i64 (sStart s).1) ∧ RWent F rb (sStart s).2 w w'
    clear C1 C2 C3 C4 C5 C7 C8
    go_enter Tryz.func14, Tryz.ntmps14
    go_wp2_with (go_at_call 43; refine C6.out.mono ?_; rintro e w' ⟨rfl, hW⟩)
    go_ret
    exact ⟨rfl, hW⟩
  | 11, _, hz =>
    show Calls _ _ _ _ fun e w' => e = .returned (.int .i64 (sFail s n k).1) ∧ RWent F rb (sFail s n k).2 w w'
    clear C1 C2 C3 C4 C5 C6 C8
    go_enter Tryz.func14, Tryz.ntmps14
    go_wp2_with (go_at_call 44; refine C7.out.mono ?_; rintro e w' ⟨rfl, hW⟩)
    go_ret
    exact ⟨rfl, hW⟩
  | m + 12, h, _ => omega
end
end Go.Proofs.YtlbhegicapggeaaGreat.fil
