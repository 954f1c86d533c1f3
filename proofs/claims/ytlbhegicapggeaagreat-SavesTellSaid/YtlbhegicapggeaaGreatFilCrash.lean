/- Files: New, Crash, Fail, Start. -/
import Derived.Test.YtlbhegicapggeaaGreatFilMethods2
namespace Go.Proofs.YtlbhegicapggeaaGreat.fil
open Go.RowKit Go.Lib Go.Maps Go.WideMaps
set_option linter.unusedVariables false
set_option linter.unusedSimpArgs false
set_option linter.unnecessarySimpa false
set_option linter.unusedSectionVars false

section
variable {w w' : World} {F : Nat → Prop} {fb mb : Nat} {D : DataW Unit} {G : List Gf} {dp : Option Addr} {s : St}

/-! ### Crash -/
theorem crash_no (p : Option Addr) (v : Value) (w : World) (h : NoFs w p) : Calls Tryz.prog 38 #[.pointer p, v] w fun e w' => e = .returned (.int .i64 1) ∧ w = w' := by
  have C := Lib.hid (useless_no p w h)
  clear h
  go_enter Tryz.func38, Tryz.ntmps38
  go_wp2_with (go_at_call 56; refine C.out.mono ?_; rintro e w' ⟨rfl, rfl⟩)
  go_ret
  exact ⟨rfl, rfl⟩
theorem keep_at {lo hi : Nat} {A : Option Addr} {ks : List Int} (h : Fs w fb mb D G dp s F) (hK : LRd w lo hi A (iv ks)) (hF : ∀ b, F b → b < lo ∨ hi ≤ b) : KeepAt w fb G A ks := fun h0 => by
  obtain ⟨b, off, e, h1, h2, h3⟩ := hK (by rw [iv_length]; exact h0)
  have hnF : ¬ F b := fun hf => by rcases hF b hf with h4 | h4 <;> omega
  have hc : ∀ j, j < ks.length → w.cell? ⟨b, off + j, none⟩ = some (.int .i64 (ks.getD j 0)) := fun j hj => h3 j _ (by simp [iv, List.getD, List.getElem?_eq_getElem hj])
  exact ⟨b, off, e, World.block_lt_of_cell? _ _ (hc 0 h0), fun e2 => hnF (e2 ▸ h.mineF), fun g hg e2 => hnF (e2 ▸ (h.each g hg).mine), hc⟩
theorem crash_is (A : Option Addr) (c lo hi : Nat) (ks : List Int) (w : World) (hkl : ks.length ≤ 9223372036854775807) (hK : LRd w lo hi A (iv ks)) (hF : ∀ b, F b → b < lo ∨ hi ≤ b) (h : IsFs w fb s F) :
    Calls Tryz.prog 38 #[.pointer (some ⟨fb, 0, none⟩), .slice A ks.length c] w fun e w' => e = .returned (.int .i64 (sCrash s ks).1) ∧ Went F fb (sCrash s ks).2 w w' := by
  have HS := Lib.hid h
  obtain ⟨mb, D, G, dp, h⟩ := h
  have C := Lib.hid (useless_is w h)
  have C2 := Lib.hid (lose_is A c ks w hkl (keep_at h hK hF) h)
  unfold down at C
  unfold sCrash
  clear h hK hF
  by_cases ho : s.off = true
  · rw [if_pos ho] at C
    rw [if_pos ho]
    go_enter Tryz.func38, Tryz.ntmps38
    go_wp2_with (go_at_call 56; refine C.out.mono ?_; rintro e w' ⟨rfl, rfl⟩)
    go_ret
    exact ⟨rfl, Wentz.refl HS.out⟩
  · rw [if_neg ho] at C
    rw [if_neg ho]
    go_enter Tryz.func38, Tryz.ntmps38
    go_wp2_with (first | (go_at_call 56; refine C.out.mono ?_; rintro e w' ⟨rfl, rfl⟩) | (go_at_call 75; refine C2.out.mono ?_; rintro e w' ⟨rfl, hW⟩))
    go_ret
    exact ⟨rfl, hW⟩

/-! ### Start -/
theorem start_no (p : Option Addr) (w : World) (h : NoFs w p) : Calls Tryz.prog 39 #[.pointer p] w fun e w' => e = .returned (.int .i64 1) ∧ w = w' := by
  have C := Lib.hid (isNone_no p w h)
  clear h
  go_enter Tryz.func39, Tryz.ntmps39
  go_wp2_with (go_at_call 76; refine C.out.mono ?_; rintro e w' ⟨rfl, rfl⟩)
  go_ret
  exact ⟨rfl, rfl⟩
theorem start_is (w : World) (hs : s.starts ≤ 1000000) (h : IsFs w fb s F) :
    Calls Tryz.prog 39 #[.pointer (some ⟨fb, 0, none⟩)] w fun e w' => e = .returned (.int .i64 (sStart s).1) ∧ Went F fb (sStart s).2 w w' := by
  have HS := Lib.hid h
  obtain ⟨mb, D, G, dp, h⟩ := h
  have C := Lib.hid (isNone_is w h)
  obtain ⟨_, _, c2, c3, _, cf⟩ := h.cells
  have f2 := cf 2
  have f3 := cf 3
  unfold sStart
  by_cases ho : s.off = true
  · rw [ho] at c2
    rw [if_pos ho]
    have HE : Hid (Went F fb { s with off := false, starts := s.starts + 1 } w ((w.setCell ⟨fb, 2, none⟩ (.bool false)).setCell ⟨fb, 3, none⟩ (.int .i64 ((s.starts : Int) + 1)))) := Lib.hid (by
      have hT : Turned (fun b => b = fb) w ((w.setCell ⟨fb, 2, none⟩ (.bool false)).setCell ⟨fb, 3, none⟩ (.int .i64 ((s.starts : Int) + 1))) := ((Turned.refl (fun b => b = fb) w).setCell (p := ⟨fb, 2, none⟩) (.inl rfl) _).setCell (p := ⟨fb, 3, none⟩) (.inl rfl) _
      have hO : Ok { s with off := false, starts := s.starts + 1 } := h.ok.set h.ok.f _ _ _ h.ok.due
      exact ⟨hT.mono fun b e => by rw [e]; exact h.mineF, F, fun _ hb => .inl hb, mb, D, G, dp, h.turnHead (s' := { s with off := false, starts := s.starts + 1 }) (fun b hb => hb) (fun b hb => Nat.lt_of_lt_of_le (h.lt b hb) hT.size)
        (fun b t cs hA ht => hT.block b hA.lt (hA.ne h.head (by rcases ht with rfl | rfl <;> decide))) (hT.block mb h.map.lt (Ne.symm h.neMap)) (At.set (At.set h.head 2 (.bool false)) 3 (.int .i64 ((s.starts : Int) + 1))) rfl
        (h.due.kept fun b t cs hA ht => hT.block b hA.lt (hA.ne h.head (by rcases ht with rfl | rfl <;> decide))) hO⟩)
    clear h cf
    go_enter Tryz.func39, Tryz.ntmps39
    go_wp2_with (go_at_call 76; refine C.out.mono ?_; rintro e w' ⟨rfl, rfl⟩)
    go_ret
    exact ⟨rfl, HE.out⟩
  · have ho' : s.off = false := by simpa using ho
    rw [ho'] at c2
    rw [if_neg ho]
    clear h cf
    go_enter Tryz.func39, Tryz.ntmps39
    go_wp2_with (go_at_call 76; refine C.out.mono ?_; rintro e w' ⟨rfl, rfl⟩)
    go_ret
    exact ⟨rfl, Wentz.refl HS.out⟩

/-! ### New -/
theorem new_no (n : Int) (w : World) (h : n < 1 ∨ 1048576 < n) : Calls Tryz.prog 5 #[.int .i64 n] w fun e w' => e = .returned (.tuple #[.pointer none, .int .i64 2]) ∧ w = w' := by
  rcases h with h | h
  · go_enter Tryz.func5, Tryz.ntmps5
    go_wp2
    go_ret2
    exact ⟨rfl, rfl⟩
  · have h1 : ¬ n < 1 := by omega
    go_enter Tryz.func5, Tryz.ntmps5
    go_wp2
    go_ret2
    exact ⟨rfl, rfl⟩
theorem new_is (n : Nat) (w : World) (h1 : 1 ≤ n) (h2 : n ≤ 1048576) :
    Calls Tryz.prog 5 #[.int .i64 n] w fun e w' => e = .returned (.tuple #[.pointer (some ⟨w.heap.size + 1, 0, none⟩), .int .i64 0]) ∧ Below w.heap.size w w' ∧ IsFs w' (w.heap.size + 1) (sNew n) (fun b => w.heap.size ≤ b ∧ b < w'.heap.size) := by
  have h3 : ¬ (n : Int) < 1 := by omega
  have h4 : ¬ (1048576 : Int) < (n : Int) := by omega
  have hmm := @run_makeMap Tryz.prog
  have HE : Hid (IsFs ((w.alloc (.map #[] 0)).alloc (.cells #[.int .i64 n, .map (some w.heap.size), .bool false, .int .i64 0, .pointer none] 50)) (w.heap.size + 1) (sNew n)
      (fun b => w.heap.size ≤ b ∧ b < ((w.alloc (.map #[] 0)).alloc (.cells #[.int .i64 n, .map (some w.heap.size), .bool false, .int .i64 0, .pointer none] 50)).heap.size)) := Lib.hid (by
    have hA := At.new (w.alloc (.map #[] 0)) 50 #[.int .i64 n, .map (some w.heap.size), .bool false, .int .i64 0, .pointer none]
    rw [World.size_alloc] at hA
    have hM : (w.alloc (.map #[] 0)).ownsMap Tryz.prog 9 ptrE w.heap.size 0 (.map []) := World.ownsMap_made _ _ _ _
    refine ⟨w.heap.size, .map [], [], none, ok_new h1 h2, hA, hM.alloc _, MapIs.start, rfl, by simp, List.Pairwise.nil, rfl, ⟨by omega, by simp⟩, ⟨by omega, by simp; omega⟩, fun b hb => hb.2⟩)
  go_enter Tryz.func5, Tryz.ntmps5
  go_wp2
  go_ret2
  exact ⟨rfl, ((Below.refl _ w).alloc (Nat.le_refl _) _).alloc (by simp) _, HE.out⟩
end
end Go.Proofs.YtlbhegicapggeaaGreat.fil
