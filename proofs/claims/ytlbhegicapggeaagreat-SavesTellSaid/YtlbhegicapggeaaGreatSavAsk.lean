/- Saves: what stands against a text's name; Clean, Load. -/
import Derived.Test.YtlbhegicapggeaaGreatFilMethods2
import Derived.Test.YtlbhegicapggeaaGreatSavPure2
namespace Go.Proofs.YtlbhegicapggeaaGreat.sav
open Go.RowKit Go.Lib Go.Maps Go.WideMaps fil
set_option linter.unusedVariables false
set_option linter.unusedSimpArgs false
set_option linter.unnecessarySimpa false
set_option linter.unusedSectionVars false

theorem isText_is (nm : ByteArray) (w : World) (hn : nm.size ≤ maxLen) : Calls Tryz.prog 55 #[.string nm] w fun e w' => e = .returned (.bool (isTx nm.data.toList)) ∧ w = w' := by
  have hb : nm.size ≤ 9223372036854775807 := by unfold maxLen at hn; omega
  have hz : nm.data.toList.length = nm.size := by rw [Array.length_toList]; rfl
  unfold isTx isNm
  rw [hz]
  by_cases h0 : nm.size = 0
  · obtain rfl : nm = ⟨#[]⟩ := by
      cases nm with
      | mk d => congr; exact Array.eq_empty_of_size_eq_zero h0
    go_enter Tryz.func55, Tryz.ntmps55
    go_wp2
    go_ret
    exact ⟨rfl, rfl⟩
  · have he' : ¬ nm.data.toList = [] := fun e => by rw [e] at hz; simp at hz; omega
    have he : ¬ nm.toList = [] := by rw [Lib.toList_data]; exact he'
    have he2 : nm.toList.isEmpty = false := by rw [Lib.toList_data]; simpa using he'
    clear he'
    have hq : decide (1 ≤ nm.size) = true := by simp; omega
    rw [hq, ← Lib.toList_data]
    unfold dn
    clear hz
    by_cases h16 : nm.size ≤ 16
    · have hq2 : decide (nm.size ≤ 16) = true := by simpa using h16
      rw [hq2]
      go_enter Tryz.func55, Tryz.ntmps55
      go_wp2
      go_ret
      exact ⟨by simp, rfl⟩
    · have hq2 : decide (nm.size ≤ 16) = false := by simpa using h16
      rw [hq2]
      go_enter Tryz.func55, Tryz.ntmps55
      go_wp2
      go_ret
      exact ⟨rfl, rfl⟩

section
variable {q : Bool} {w w' : World} {F : Nat → Prop} {fb mb : Nat} {D : DataW Unit} {G : List Gf} {dp : Option Addr} {s : St}
theorem no_empty (h : Ok s) : find s.files [] = none := find_none.2 fun x hx e => by
  have := isNm_le (h.nm x hx)
  rw [e] at this
  simp at this
theorem reads_empty (h : Ok s) : reads s [] = ([], if s.off = true then 51 else 4) := by
  unfold reads
  rw [no_empty h]
  split <;> rfl

set_option maxRecDepth 100000 in
theorem against_is (nm : ByteArray) (w : World) (hn : nm.size ≤ maxLen) (h : IsFs w fb s F) :
    Calls Tryz.prog 17 #[.pointer (some ⟨fb, 0, none⟩), .string nm] w fun e w' => e = .returned (.int .i64 (sAgainst s nm.data.toList)) ∧ w = w' := by
  obtain ⟨mb, D, G, dp, h⟩ := h
  have C := read_is ⟨#[]⟩ w (by decide) h
  rw [show (⟨#[]⟩ : ByteArray).data.toList = [] from rfl, reads_empty h.ok] at C
  have C2 := isText_is nm w hn
  unfold sAgainst
  clear h
  cases hb : s.off
  · rw [hb] at C
    have C := Lib.hid C
    cases hi : isTx nm.data.toList
    · rw [hi] at C2
      have C2 := Lib.hid C2
      clear hb hi
      go_enter Tryz.func17, Tryz.ntmps17
      go_wp2_with (first | (go_at_call 18; refine C.out.mono ?_; rintro e w' ⟨rfl, rfl⟩) | (go_at_call 55; refine C2.out.mono ?_; rintro e w' ⟨rfl, rfl⟩))
      go_ret
      exact ⟨rfl, rfl⟩
    · rw [hi] at C2
      have C2 := Lib.hid C2
      clear hb hi
      go_enter Tryz.func17, Tryz.ntmps17
      go_wp2_with (first | (go_at_call 18; refine C.out.mono ?_; rintro e w' ⟨rfl, rfl⟩) | (go_at_call 55; refine C2.out.mono ?_; rintro e w' ⟨rfl, rfl⟩))
      go_ret
      exact ⟨rfl, rfl⟩
  · rw [hb] at C
    have C := Lib.hid C
    clear hb C2
    go_enter Tryz.func17, Tryz.ntmps17
    go_wp2_with (go_at_call 18; refine C.out.mono ?_; rintro e w' ⟨rfl, rfl⟩)
    go_ret
    exact ⟨rfl, rfl⟩
theorem against_no (p : Option Addr) (nm : ByteArray) (w : World) (h : NoFs w p) :
    Calls Tryz.prog 17 #[.pointer p, .string nm] w fun e w' => e = .returned (.int .i64 1) ∧ w = w' := by
  have C := Lib.hid (read_no p ⟨#[]⟩ w h)
  clear h
  go_enter Tryz.func17, Tryz.ntmps17
  go_wp2_with (go_at_call 18; refine C.out.mono ?_; rintro e w' ⟨rfl, rfl⟩)
  go_ret
  exact ⟨rfl, rfl⟩

set_option maxRecDepth 100000 in
theorem clean_is (w : World) (h : IsFs w fb s F) :
    Calls Tryz.prog 9 #[.pointer (some ⟨fb, 0, none⟩)] w fun e w' => e = .returned (.int .i64 (sClean s).1) ∧ Went F fb (sClean s).2 w w' := by
  have C := remove_is ⟨#[126]⟩ w (by decide) h
  rw [show (⟨#[126]⟩ : ByteArray).data.toList = dn from rfl] at C
  unfold sClean
  clear h
  generalize sRemove s dn = r at *
  obtain ⟨z, s1⟩ := r
  simp only at C ⊢
  have C := Lib.hid C
  by_cases h4 : z = 4
  · subst h4
    rw [if_pos rfl]
    go_enter Tryz.func9, Tryz.ntmps9
    go_wp2_with (go_at_call 22; refine C.out.mono ?_; rintro e w' ⟨rfl, hW⟩)
    go_ret
    exact ⟨rfl, hW⟩
  · rw [if_neg h4]
    have hd : (z == 4) = false := by simpa using h4
    go_enter Tryz.func9, Tryz.ntmps9
    go_wp2_with (go_at_call 22; refine C.out.mono ?_; rintro e w' ⟨rfl, hW⟩)
    go_ret
    exact ⟨rfl, hW⟩
theorem clean_no (p : Option Addr) (w : World) (h : NoFs w p) :
    Calls Tryz.prog 9 #[.pointer p] w fun e w' => e = .returned (.int .i64 1) ∧ Below w.heap.size w w' := by
  have C := Lib.hid (remove_no p ⟨#[126]⟩ w h)
  clear h
  go_enter Tryz.func9, Tryz.ntmps9
  go_wp2_with (go_at_call 22; refine C.out.mono ?_; rintro e w' ⟨rfl, hB⟩)
  go_ret
  exact ⟨rfl, hB⟩

set_option maxRecDepth 100000 in
theorem load_is (nm : ByteArray) (w : World) (hn : nm.size ≤ maxLen) (h : IsFs w fb s F) :
    Calls Tryz.prog 7 #[.pointer (some ⟨fb, 0, none⟩), .string nm] w fun e w' => e = .returned (.tuple #[.string (B (sLoad s nm.data.toList).1), .int .i64 (sLoad s nm.data.toList).2]) ∧ w = w' := by
  have C := against_is nm w hn h
  obtain ⟨mb, D, G, dp, h⟩ := h
  have C2 := read_is nm w hn h
  clear h
  unfold sAgainst at C
  unfold reads at C2
  unfold sLoad
  cases hb : s.off
  · rw [hb] at C C2
    rw [if_neg Bool.false_ne_true] at C C2
    rw [if_neg Bool.false_ne_true]
    cases hi : isTx nm.data.toList
    · rw [hi, if_neg Bool.false_ne_true] at C
      rw [if_neg Bool.false_ne_true]
      have C := Lib.hid C
      clear hb hi C2
      go_enter Tryz.func7, Tryz.ntmps7
      go_wp2_with (go_at_call 17; refine C.out.mono ?_; rintro e w' ⟨rfl, rfl⟩)
      go_ret2
      exact ⟨rfl, rfl⟩
    · rw [hi, if_pos rfl] at C
      rw [if_pos rfl]
      have C := Lib.hid C
      have C2 := Lib.hid C2
      clear hb hi
      go_enter Tryz.func7, Tryz.ntmps7
      go_wp2_with (first | (go_at_call 17; refine C.out.mono ?_; rintro e w' ⟨rfl, rfl⟩) | (go_at_call 18; refine C2.out.mono ?_; rintro e w' ⟨rfl, rfl⟩))
      all_goals (go_ret2; exact ⟨rfl, rfl⟩)
  · rw [hb, if_pos rfl] at C
    rw [if_pos rfl]
    have C := Lib.hid C
    clear hb C2
    go_enter Tryz.func7, Tryz.ntmps7
    go_wp2_with (go_at_call 17; refine C.out.mono ?_; rintro e w' ⟨rfl, rfl⟩)
    go_ret2
    exact ⟨rfl, rfl⟩
theorem load_no (p : Option Addr) (nm : ByteArray) (w : World) (h : NoFs w p) :
    Calls Tryz.prog 7 #[.pointer p, .string nm] w fun e w' => e = .returned (.tuple #[.string (B []), .int .i64 1]) ∧ w = w' := by
  have C := Lib.hid (against_no p nm w h)
  clear h
  go_enter Tryz.func7, Tryz.ntmps7
  go_wp2_with (go_at_call 17; refine C.out.mono ?_; rintro e w' ⟨rfl, rfl⟩)
  go_ret2
  exact ⟨rfl, rfl⟩
end
end Go.Proofs.YtlbhegicapggeaaGreat.sav
