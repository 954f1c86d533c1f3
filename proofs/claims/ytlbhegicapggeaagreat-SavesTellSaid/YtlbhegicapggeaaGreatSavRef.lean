/- Saves: the document's own Write, Load and Clean, over its own system. -/
import Derived.Test.YtlbhegicapggeaaGreatSavWrite
import Derived.Test.YtlbhegicapggeaaGreatFilRefBy
namespace Go.Proofs.YtlbhegicapggeaaGreat.sav
open Go.RowKit Go.Lib Go.Maps Go.WideMaps fil
set_option linter.unusedVariables false
set_option linter.unusedSimpArgs false
set_option linter.unnecessarySimpa false
set_option linter.unusedSectionVars false

section
variable {w w' : World} {F : Nat → Prop} {rb : Nat} {s : St}
theorem on_is (w : World) (h : RIs w rb s F) : Calls Tryz.prog 19 #[.pointer (some ⟨rb, 0, none⟩)] w fun e w' => e = .returned (.int .i64 (if s.off = true then 51 else 0)) ∧ w = w' := by
  obtain ⟨v, kv, z, fl, h⟩ := h
  have c2 := h.cells.2.2.1
  clear h
  cases hb : s.off
  · rw [hb] at c2
    go_enter Tryz.func19, Tryz.ntmps19
    go_wp2
    go_ret
    exact ⟨rfl, rfl⟩
  · rw [hb] at c2
    go_enter Tryz.func19, Tryz.ntmps19
    go_wp2
    go_ret
    exact ⟨rfl, rfl⟩
theorem rplace_is (nm : ByteArray) (w : World) (hn : nm.size ≤ maxLen) (h : RIs w rb s F) :
    Calls Tryz.prog 23 #[.pointer (some ⟨rb, 0, none⟩), .string nm] w fun e w' => e = .returned (.int .i64 (placeN s.files nm.data.toList)) ∧ w = w' := by
  obtain ⟨v, kv, z, fl, h⟩ := h
  exact place_is nm w hn h
theorem rread_is (nm : ByteArray) (w : World) (hn : nm.size ≤ maxLen) (h : RIs w rb s F) :
    Calls Tryz.prog 21 #[.pointer (some ⟨rb, 0, none⟩), .string nm] w fun e w' => e = .returned (.tuple #[.string (B (reads s nm.data.toList).1), .int .i64 (reads s nm.data.toList).2]) ∧ w = w' := by
  obtain ⟨v, kv, z, fl, h⟩ := h
  exact refRead_is nm w hn h
theorem clean_off {s : St} (hb : s.off = true) : sClean s = (51, s) := by
  unfold sClean sRemove stroke
  rw [if_pos hb]; rfl
theorem clean_some {s : St} (hon : s.off = false) {x : Fl} (hf : find s.files dn = some x) : sClean s = sRemove s dn := by
  unfold sClean
  have h4 : (sRemove s dn).1 ≠ 4 := by
    unfold sRemove
    rw [sav.there_some hf]
    unfold stroke
    rw [if_neg (by rw [hon]; decide), if_pos rfl]
    split <;> simp
  rw [if_neg h4]

set_option maxRecDepth 100000 in
theorem refClean_is (w : World) (h : RIs w rb s F) :
    Calls Tryz.prog 10 #[.pointer (some ⟨rb, 0, none⟩)] w fun e w' => e = .returned (.int .i64 (sClean s).1) ∧ RWent F rb (sClean s).2 w w' := by
  have C := on_is w h
  have HW := Lib.hid (RWent.refl h)
  cases hb : s.off
  · rw [hb, if_neg Bool.false_ne_true] at C
    have C := Lib.hid C
    have C2 := rplace_is ⟨#[126]⟩ w (by decide) h
    rw [show (⟨#[126]⟩ : ByteArray).data.toList = dn from rfl] at C2
    rcases hf : find s.files dn with _ | x
    · rw [clean_none hb hf]
      unfold placeN at C2
      rw [place_none hf] at C2
      have C2 := Lib.hid C2
      clear h hb hf
      go_enter Tryz.func10, Tryz.ntmps10
      go_wp2_with (first | (go_at_call 19; refine C.out.mono ?_; rintro e w' ⟨rfl, rfl⟩) | (go_at_call 23; refine C2.out.mono ?_; rintro e w' ⟨rfl, rfl⟩))
      go_ret
      exact ⟨rfl, HW.out⟩
    · rw [clean_some hb hf]
      obtain ⟨i, hp, _⟩ := place_some hf
      unfold placeN at C2
      rw [hp] at C2
      simp only at C2
      have C2 := Lib.hid C2
      have C3 := refRemove_is ⟨#[126]⟩ w (by decide) h
      rw [show (⟨#[126]⟩ : ByteArray).data.toList = dn from rfl] at C3
      have C3 := Lib.hid C3
      have hi0 : (0 : Int) ≤ (i : Int) := by omega
      clear h hb hf hp
      go_enter Tryz.func10, Tryz.ntmps10
      go_wp2_with (first | (go_at_call 19; refine C.out.mono ?_; rintro e w' ⟨rfl, rfl⟩) | (go_at_call 23; refine C2.out.mono ?_; rintro e w' ⟨rfl, rfl⟩) | (go_at_call 24; refine C3.out.mono ?_; rintro e w' ⟨rfl, hW⟩))
      go_ret
      exact ⟨rfl, hW⟩
  · rw [hb, if_pos rfl] at C
    rw [clean_off hb]
    have C := Lib.hid C
    clear h hb
    go_enter Tryz.func10, Tryz.ntmps10
    go_wp2_with (go_at_call 19; refine C.out.mono ?_; rintro e w' ⟨rfl, rfl⟩)
    go_ret
    exact ⟨rfl, HW.out⟩

/-- A text's name, as the document asks for it: a name, and not the draft's. -/
theorem tx_parts (nm : ByteArray) : isTx nm.data.toList = (isNm nm.data.toList && !(nm.toList == [126])) := by
  rw [Lib.toList_data]; rfl
set_option maxRecDepth 100000 in
theorem refLoad_is (nm : ByteArray) (w : World) (hn : nm.size ≤ maxLen) (h : RIs w rb s F) :
    Calls Tryz.prog 8 #[.pointer (some ⟨rb, 0, none⟩), .string nm] w fun e w' => e = .returned (.tuple #[.string (B (sLoad s nm.data.toList).1), .int .i64 (sLoad s nm.data.toList).2]) ∧ w = w' := by
  have C := on_is w h
  have C2 := refName_is nm w hn
  have C3 := rread_is nm w hn h
  clear h
  have ht := tx_parts nm
  unfold reads at C3
  unfold sLoad
  cases hb : s.off
  · rw [hb, if_neg Bool.false_ne_true] at C C3
    rw [if_neg Bool.false_ne_true]
    cases hi : isNm nm.data.toList
    · rw [hi] at C2 ht
      rw [show isTx nm.data.toList = false from ht, if_neg Bool.false_ne_true]
      have C := Lib.hid C
      have C2 := Lib.hid C2
      clear hb hi C3 ht
      go_enter Tryz.func8, Tryz.ntmps8
      go_wp2_with (first | (go_at_call 19; refine C.out.mono ?_; rintro e w' ⟨rfl, rfl⟩) | (go_at_call 20; refine C2.out.mono ?_; rintro e w' ⟨rfl, rfl⟩))
      go_ret2
      exact ⟨rfl, rfl⟩
    · rw [hi] at C2 ht
      cases hq : (nm.toList == [126])
      · rw [hq] at ht
        rw [show isTx nm.data.toList = true from ht, if_pos rfl]
        have C := Lib.hid C
        have C2 := Lib.hid C2
        have C3 := Lib.hid C3
        have hq2 : ¬ nm.toList = [126] := by simpa using hq
        clear hb hi ht
        go_enter Tryz.func8, Tryz.ntmps8
        go_wp2_with (first | (go_at_call 19; refine C.out.mono ?_; rintro e w' ⟨rfl, rfl⟩) | (go_at_call 20; refine C2.out.mono ?_; rintro e w' ⟨rfl, rfl⟩) | (go_at_call 21; refine C3.out.mono ?_; rintro e w' ⟨rfl, rfl⟩))
        all_goals (go_ret2; exact ⟨rfl, rfl⟩)
      · rw [hq] at ht
        rw [show isTx nm.data.toList = false from ht, if_neg Bool.false_ne_true]
        have C := Lib.hid C
        have C2 := Lib.hid C2
        have hq2 : nm.toList = [126] := by simpa using hq
        clear hb hi C3 ht
        go_enter Tryz.func8, Tryz.ntmps8
        go_wp2_with (first | (go_at_call 19; refine C.out.mono ?_; rintro e w' ⟨rfl, rfl⟩) | (go_at_call 20; refine C2.out.mono ?_; rintro e w' ⟨rfl, rfl⟩))
        go_ret2
        exact ⟨rfl, rfl⟩
  · rw [hb, if_pos rfl] at C
    rw [if_pos rfl]
    have C := Lib.hid C
    clear hb C2 C3 ht
    go_enter Tryz.func8, Tryz.ntmps8
    go_wp2_with (go_at_call 19; refine C.out.mono ?_; rintro e w' ⟨rfl, rfl⟩)
    go_ret2
    exact ⟨rfl, rfl⟩
end
end Go.Proofs.YtlbhegicapggeaaGreat.sav
