/- Core: Undo. -/
import Derived.Test.YtdbeedhedjhamaaCorEnd
namespace Go.Proofs.Ytdbeedhedjhamaa.cor
open Go.RowKit Go.Lib pce sps mrk
set_option linter.unusedVariables false
set_option linter.unusedSimpArgs false
set_option linter.unnecessarySimpa false
set_option linter.unusedSectionVars false

section
variable {n cb bb rb : Nat} {w0 w w' : World} {G G' : Nat → Prop} {s : S} {u v bk gn : Value} {o : Option M} {last : ByteArray} {m : M}
/-- What Undo tells where there is something to bring back. -/
def UndoSays (n : Nat) (w0 w : World) (cb : Nat) (s : S) (G : Nat → Prop) (mb : M) (e : Ending) (w' : World) : Prop := ∃ A A2 c2, e = .returned (.tuple #[.slice A 1 1, .int .i64 0]) ∧ Cuts w' (fun b => ¬ G b) A [over s.m.L.length A2 c2 mb.L] ∧ Cr n w0 cb ⟨mb, some s.m, none, true⟩ G w' ∧ Went G G w w'
theorem cr_undo {x1 x2 : World} {tb t0 : Nat} {mb : M} (hi : Is n w G cb s (.pointer (some ⟨tb, 0, none⟩)) (.pointer (some ⟨bb, 0, none⟩)) (.pointer none) rb last) (hgb : G bb) (hAb : At w bb 53 (moL (.pointer (some ⟨t0, 0, none⟩)) mb).toArray) (hMb : Mo w G (.pointer (some ⟨t0, 0, none⟩)) mb)
    (hO1 : Only cb w.drew x1) (hx1 : At x1 cb 57 (coL (.pointer (some ⟨t0, 0, none⟩)) mb (.pointer (some ⟨bb, 0, none⟩)) (.pointer none) (.pointer (some ⟨rb, 0, none⟩)) last s.dirty).toArray) (hO2 : Only bb x1 x2) (hx2 : At x2 bb 53 (moL (.pointer (some ⟨tb, 0, none⟩)) s.m).toArray) :
    Is n (x2.setCell ⟨cb, 32, none⟩ (.bool true)) G cb ⟨mb, some s.m, none, true⟩ (.pointer (some ⟨t0, 0, none⟩)) (.pointer (some ⟨bb, 0, none⟩)) (.pointer none) rb last ∧ Went G G w (x2.setCell ⟨cb, 32, none⟩ (.bool true)) := by
  have nbc : cb ≠ bb := At.ne hi.at_ hAb (by decide)
  have hO3 : Only cb x2 (x2.setCell ⟨cb, 32, none⟩ (.bool true)) := Only.cell _ _ _ _
  have hA3 := co_set32 (hx1.same (hO2.block cb nbc)) true
  have hB3 := hx2.same (hO3.block bb (Ne.symm nbc))
  generalize x2.setCell ⟨cb, 32, none⟩ (.bool true) = x3 at *
  have hd : Below w.heap.size w w.drew := below_drew (Below.refl _ _)
  have hT : Turned (fun b => b = cb ∨ b = bb) w x3 := (((Turned.of_below hd (fun b => b = cb ∨ b = bb)).then_only hO1 (.inl (.inl rfl))).then_only hO2 (.inl (.inr rfl))).then_only hO3 (.inl (.inl rfl))
  have hW : Went G G w x3 := ⟨hT.mono (fun b hb => hb.elim (fun e => e ▸ hi.gc) (fun e => e ▸ hgb)), fun b hb => .inl hb⟩
  exact ⟨⟨hA3, hi.gc, hi.gr, hMb.went hW, hi.rg.went hW (hT.block rb hi.rg.lt (fun hb => hb.elim (hi.rg.ne hi.at_ (by decide)) (hi.rg.ne hAb (by decide)))), ⟨bb, _, rfl, hgb, hB3, hi.mo.went hW⟩, rfl⟩, hW⟩
set_option maxHeartbeats 4000000 in
set_option maxRecDepth 100000 in
theorem undo_is (h : Cr n w0 cb s G w) (hb : s.begun = none) (mb : M) (hbk : s.back = some mb) :
    Calls Try.prog 7 #[.pointer (some ⟨cb, 0, none⟩)] w (UndoSays n w0 w cb s G mb) := by
  have KN := Lib.hid (isNone_is h)
  obtain ⟨v, bk, gn, rb, last, hi⟩ := h.is
  have hG := fun b (hb : G b) => (h.g b hb).2
  have hB := hi.back
  rw [hbk] at hB
  obtain ⟨bb, vb, rfl, hgb, hAb, hMb⟩ := hB
  obtain rfl : gn = .pointer none := by have := hi.begun; rw [hb] at this; exact this
  obtain ⟨tb, rfl, c0, c1, c28, c29, _⟩ := hi.cells
  obtain ⟨t0, rfl⟩ := hMb.ptr
  obtain ⟨ps, ht, hp⟩ := hi.mo.tab
  obtain ⟨N, hN⟩ : ∃ N, s.m.L.length = N := ⟨_, rfl⟩
  have hN2 : N ≤ 2000 := by rw [← hN]; exact hi.mo.fine.1
  have KL := len_is w _ _ ps ht
  rw [hp, hN] at KL
  have KL := Lib.hid KL
  have nbc : cb ≠ bb := At.ne hi.at_ hAb (by decide)
  have hAd : At w.drew cb 57 (coL (.pointer (some ⟨tb, 0, none⟩)) s.m (.pointer (some ⟨bb, 0, none⟩)) (.pointer none) (.pointer (some ⟨rb, 0, none⟩)) last s.dirty).toArray := hi.at_
  have hAbd : At w.drew bb 53 (moL (.pointer (some ⟨t0, 0, none⟩)) mb).toArray := hAb
  have HA := Lib.hid hAd
  have HB := Lib.hid hAbd
  have HNE := Lib.hid nbc
  have HE := Lib.hid (fun x1 x2 a1 a2 a3 a4 => @cr_undo n cb bb rb w G s last x1 x2 tb t0 mb hi hgb hAb hMb a1 a2 a3 a4)
  have HF : Hid (∀ x3 w4 A2 k2 c2, (Is n x3 G cb ⟨mb, some s.m, none, true⟩ (.pointer (some ⟨t0, 0, none⟩)) (.pointer (some ⟨bb, 0, none⟩)) (.pointer none) rb last ∧ Went G G w x3) → Lst w4 (x3.heap.size ≤ ·) A2 k2 c2 mb.L → Below x3.heap.size x3 w4 → UndoSays n w0 w cb s G mb (.returned (.tuple #[.slice (some ⟨w4.heap.size, 0, none⟩) 1 1, .int .i64 0])) (w4.alloc (.cells #[.int .i64 0, .int .i64 (N : Nat), .slice A2 k2 c2] 24))) := Lib.hid fun x3 w4 A2 k2 c2 h3 hL hB => by
    obtain ⟨hi3, hW3⟩ := h3
    have hl3 : ∀ b, G b → b < x3.heap.size := fun b hg => Nat.lt_of_lt_of_le (hG b hg) hW3.t.size
    have hcr := h.turned hW3 hl3 hi3
    have hB45 : Below w4.heap.size w4 (w4.alloc (.cells #[.int .i64 0, .int .i64 (N : Nat), .slice A2 k2 c2] 24)) := (Below.refl _ _).alloc (Nat.le_refl _) _
    have hB35 := hB.trans (hB45.mono hB.size)
    have hA := At.new w4 24 #[.int .i64 0, .int .i64 (N : Nat), .slice A2 k2 c2]
    have hL5 : Lst _ (fun b => ¬ G b) A2 k2 c2 mb.L := (hL.below hB45).mono fun b hb _ hg => by have := hl3 b hg; omega
    obtain rfl : k2 = mb.L.length := hL.len
    have hf : Fine mb.L := hi3.mo.fine
    have hfl2 : mb.L.length ≤ 2000 := hf.1
    refine ⟨_, A2, c2, rfl, ⟨fun _ => ⟨w4.heap.size, 0, rfl, fun hg => by have := hl3 _ hg; have := hB.size; omega, by simp, fun j u hj => ?_⟩, fun t ht => ?_⟩, hcr.move hB35, hW3.then_below hB35⟩
    · have hfl : flat [over s.m.L.length A2 c2 mb.L] = [.int .i64 0, .int .i64 (N : Nat), .slice A2 mb.L.length c2] := by simp [flat, Ct.cells, over, hN]
      rw [hfl] at hj
      rw [Nat.zero_add, hA.cell]
      simpa using hj
    · rw [List.mem_singleton.1 ht]
      exact ⟨(show (-9223372036854775808 : Int) ≤ 0 by decide), (show (0 : Int) ≤ 9223372036854775807 by decide), (show (-9223372036854775808 : Int) ≤ (s.m.L.length : Nat) by omega), (show ((s.m.L.length : Nat) : Int) ≤ 9223372036854775807 by omega), hL5, fun z hz => by have := hf.size z hz; unfold maxLen; omega, by show mb.L.length ≤ maxLen; unfold maxLen; omega⟩
  clear hi h hAd hAbd hAb nbc hMb ht hp hG hgb
  go_enter Try.func7, Try.ntmps7
  go_wp2_with (first
    | (go_at_call 28; (with_reducible refine KN.out.mono ?_); rintro e w2 ⟨rfl, rfl⟩)
    | (go_at_call 29; (with_reducible refine KL.out.mono ?_); rintro e w2 ⟨rfl, rfl⟩)
    | fail "NONE")
  refine wp_region_noPanic ?_
  refine wp_region_held_drew (S := fun W => ∃ v m, At W cb 57 (coL v m (.pointer (some ⟨bb, 0, none⟩)) (.pointer none) (.pointer (some ⟨rb, 0, none⟩)) last s.dirty).toArray) (by kernel_rfl) (by (try dsimp only); first | assumption | exact ⟨_, _, HA.out⟩) (fun hHeld => ?_)
  refine held.take (i := 0) (v := .pointer (some ⟨cb, 0, none⟩)) rfl (by kernel_rfl) (by kernel_rfl) (by kernel_rfl) (fun _ _ _ h => h) (Or.inl ⟨by rfl, fun W hW => by (try dsimp only at hW); go_simp⟩) (by assumption) ?_
  (try simp only [Act.put, List.setIfInBounds_toArray, List.set_cons_zero, List.set_cons_succ])
  refine held.take (i := 1) (v := .pointer (some ⟨cb, 0, none⟩)) rfl (by kernel_rfl) (by kernel_rfl) (by kernel_rfl) (fun _ _ _ h => h) (Or.inl ⟨by rfl, fun W hW => by (try dsimp only at hW); go_simp⟩) (by assumption) ?_
  (try simp only [Act.put, List.setIfInBounds_toArray, List.set_cons_zero, List.set_cons_succ])
  refine held.take (i := 2) (v := .pointer (some ⟨cb, 0, none⟩)) rfl (by kernel_rfl) (by kernel_rfl) (by kernel_rfl) (fun _ _ _ h => h) (Or.inl ⟨by rfl, fun W hW => by (try dsimp only at hW); go_simp⟩) (by assumption) ?_
  (try simp only [Act.put, List.setIfInBounds_toArray, List.set_cons_zero, List.set_cons_succ])
  refine held.take (i := 3) (v := .pointer (some ⟨cb, 28, none⟩)) rfl (by kernel_rfl) (by kernel_rfl) (by kernel_rfl) (fun _ _ _ h => h) (Or.inl ⟨by rfl, fun W hW => by (try dsimp only at hW); go_simp⟩) (by assumption) ?_
  (try simp only [Act.put, List.setIfInBounds_toArray, List.set_cons_zero, List.set_cons_succ])
  refine held.take (i := 4) (v := .pointer (some ⟨bb, 0, none⟩)) rfl (by kernel_rfl) (by kernel_rfl) (by kernel_rfl) (fun _ _ _ h => h) (Or.inl ⟨by rfl, fun W hW => by (try dsimp only at hW); obtain ⟨_, _, hA⟩ := hW; have c28 := (co_cells hA).2.2.1; go_simp⟩) (by assumption) ?_
  (try simp only [Act.put, List.setIfInBounds_toArray, List.set_cons_zero, List.set_cons_succ])
  refine held.take (i := 5) (v := .pointer (some ⟨cb, 0, none⟩)) rfl (by kernel_rfl) (by kernel_rfl) (by kernel_rfl) (fun _ _ _ h => h) (Or.inl ⟨by rfl, fun W hW => by (try dsimp only at hW); go_simp⟩) (by assumption) ?_
  (try simp only [Act.put, List.setIfInBounds_toArray, List.set_cons_zero, List.set_cons_succ])
  refine held.take (i := 6) (v := .pointer (some ⟨cb, 0, none⟩)) rfl (by kernel_rfl) (by kernel_rfl) (by kernel_rfl) (fun _ _ _ h => h) (Or.inl ⟨by rfl, fun W hW => by (try dsimp only at hW); go_simp⟩) (by assumption) ?_
  (try simp only [Act.put, List.setIfInBounds_toArray, List.set_cons_zero, List.set_cons_succ])
  refine held.take (i := 7) (v := .pointer (some ⟨cb, 28, none⟩)) rfl (by kernel_rfl) (by kernel_rfl) (by kernel_rfl) (fun _ _ _ h => h) (Or.inl ⟨by rfl, fun W hW => by (try dsimp only at hW); go_simp⟩) (by assumption) ?_
  (try simp only [Act.put, List.setIfInBounds_toArray, List.set_cons_zero, List.set_cons_succ])
  refine held.take (i := 8) (v := .pointer (some ⟨bb, 0, none⟩)) rfl (by kernel_rfl) (by kernel_rfl) (by kernel_rfl) (fun _ _ _ h => h) (Or.inl ⟨by rfl, fun W hW => by (try dsimp only at hW); obtain ⟨_, _, hA⟩ := hW; have c28 := (co_cells hA).2.2.1; go_simp⟩) (by assumption) ?_
  (try simp only [Act.put, List.setIfInBounds_toArray, List.set_cons_zero, List.set_cons_succ])
  refine held.take (i := 9) (v := .pointer (some ⟨bb, 0, none⟩)) rfl (by kernel_rfl) (by kernel_rfl) (by kernel_rfl) (fun _ _ _ h => h) (Or.inl ⟨by rfl, fun W hW => by (try dsimp only at hW); go_simp⟩) (by assumption) ?_
  (try simp only [Act.put, List.setIfInBounds_toArray, List.set_cons_zero, List.set_cons_succ])
  refine held.take (i := 11) (v := .pointer (some ⟨cb, 0, none⟩)) rfl (by kernel_rfl) (by kernel_rfl) (by kernel_rfl) (fun _ _ _ h => h) (Or.inl ⟨by rfl, fun W hW => by (try dsimp only at hW); go_simp⟩) (by assumption) ?_
  (try simp only [Act.put, List.setIfInBounds_toArray, List.set_cons_zero, List.set_cons_succ])
  refine held.take (i := 12) (v := .pointer (some ⟨cb, 0, none⟩)) rfl (by kernel_rfl) (by kernel_rfl) (by kernel_rfl) (fun _ _ _ h => h) (Or.inl ⟨by rfl, fun W hW => by (try dsimp only at hW); go_simp⟩) (by assumption) ?_
  (try simp only [Act.put, List.setIfInBounds_toArray, List.set_cons_zero, List.set_cons_succ])
  refine held.take (i := 13) (v := .pointer (some ⟨cb, 0, none⟩)) rfl (by kernel_rfl) (by kernel_rfl) (by kernel_rfl) (fun _ _ _ h => h) (Or.inl ⟨by rfl, fun W hW => by (try dsimp only at hW); go_simp⟩) (by assumption) ?_
  (try simp only [Act.put, List.setIfInBounds_toArray, List.set_cons_zero, List.set_cons_succ])
  refine held_two (i := 10) (j := 14) (by kernel_rfl) rfl rfl (fun K hK => ?_) (fun K hK => ?_)
  · skip
    refine step_of rfl (wp_loadV 53 _ rfl undM infM bb 0 rfl (moL (.pointer (some ⟨t0, 0, none⟩)) mb) (moL_len _ _) (At.whole HB.out) ?_)
    refine hK.out _ _ (by (try dsimp only); first | assumption | exact ⟨_, _, HA.out⟩) (fun hHeld => ?_)
    clear hK K
    (try simp only [Act.put, List.setIfInBounds_toArray, List.set_cons_zero, List.set_cons_succ])
    refine held.only (i := 14) (by kernel_rfl) rfl (fun K hK => ?_)
    refine step_of rfl (wp_loadV 53 _ rfl undM infM cb 0 rfl (moL (.pointer (some ⟨tb, 0, none⟩)) s.m) (moL_len _ _) (co_moment HA.out) ?_)
    refine hK.out _ _ (by (try dsimp only); first | assumption | exact ⟨_, _, HA.out⟩) (fun hHeld => ?_)
    clear hK K
    (try simp only [Act.put, List.setIfInBounds_toArray, List.set_cons_zero, List.set_cons_succ])
    refine held.take (i := 15) (v := .pointer (some ⟨cb, 0, none⟩)) rfl (by kernel_rfl) (by kernel_rfl) (by kernel_rfl) (fun _ _ _ h => h) (Or.inl ⟨by rfl, fun W hW => by (try dsimp only at hW); go_simp⟩) (by assumption) ?_
    (try simp only [Act.put, List.setIfInBounds_toArray, List.set_cons_zero, List.set_cons_succ])
    refine held.take (i := 16) (v := .pointer (some ⟨cb, 0, none⟩)) rfl (by kernel_rfl) (by kernel_rfl) (by kernel_rfl) (fun _ _ _ h => h) (Or.inl ⟨by rfl, fun W hW => by (try dsimp only at hW); go_simp⟩) (by assumption) ?_
    (try simp only [Act.put, List.setIfInBounds_toArray, List.set_cons_zero, List.set_cons_succ])
    refine held.only (i := 17) (by kernel_rfl) rfl (fun K hK => ?_)
    refine step_of rfl (wp_storeCo (.tmp 39) (.tmp 33) rfl HA.out (some ⟨t0, 0, none⟩) mb rfl rfl ?_)
    intro x1 hx1 hO1
    have hb1 := HB.out.same (hO1.block bb (Ne.symm HNE.out))
    have hS1 : ∃ v m, At x1 cb 57 (coL v m (.pointer (some ⟨bb, 0, none⟩)) (.pointer none) (.pointer (some ⟨rb, 0, none⟩)) last s.dirty).toArray := ⟨_, _, hx1⟩
    refine hK.out _ _ (by (try dsimp only); first | assumption | exact ⟨_, _, HA.out⟩) (fun hHeld => ?_)
    clear hK K
    (try simp only [Act.put, List.setIfInBounds_toArray, List.set_cons_zero, List.set_cons_succ])
    refine held.take (i := 18) (v := .pointer (some ⟨bb, 0, none⟩)) rfl (by kernel_rfl) (by kernel_rfl) (by kernel_rfl) (fun _ _ _ h => h) (Or.inl ⟨by rfl, fun W hW => by (try dsimp only at hW); go_simp⟩) (by assumption) ?_
    (try simp only [Act.put, List.setIfInBounds_toArray, List.set_cons_zero, List.set_cons_succ])
    refine held.only (i := 19) (by kernel_rfl) rfl (fun K hK => ?_)
    refine step_of rfl (wp_storeMo (.tmp 40) (.tmp 37) rfl bb _ _ hb1 (some ⟨tb, 0, none⟩) s.m rfl rfl ?_)
    intro x2 hx2 hO2
    have hc2 := hx1.same (hO2.block cb HNE.out)
    have hS2 : ∃ v m, At x2 cb 57 (coL v m (.pointer (some ⟨bb, 0, none⟩)) (.pointer none) (.pointer (some ⟨rb, 0, none⟩)) last s.dirty).toArray := ⟨_, _, hc2⟩
    refine hK.out _ _ (by (try dsimp only); first | assumption | exact ⟨_, _, HA.out⟩) (fun hHeld => ?_)
    clear hK K
    (try simp only [Act.put, List.setIfInBounds_toArray, List.set_cons_zero, List.set_cons_succ])
    refine wpAnyH_done (by kernel_rfl) ?_ _
    refine NoPanic.normal ?_
    obtain ⟨_, _, _, _, _, _, d32⟩ := co_cells hc2
    have f32 := hc2.frozen 32
    have HI := Lib.hid (HE.out x1 x2 hO1 hx1 hO2 hx2)
    have KM3 := Lib.hid (co_moment HI.out.1.at_)
    have KS3 := Lib.hid (mlines_is _ G _ mb HI.out.1.mo)
    go_wp2_with (first
      | (refine wpList_loadV rfl 53 _ rfl undM infM cb 0 rfl _ (moL_len _ _) KM3.out ?_)
      | (go_at_call 30; (with_reducible refine KS3.out.mono ?_); rintro e w4 ⟨x, rfl, hr⟩; obtain ⟨A2, k2, c2, rfl, hL2, hB2⟩ := row_lst hr)
      | fail "NONE")
    go_ret2
    exact HF.out _ w4 A2 k2 c2 HI.out hL2 hB2
  · skip
    refine step_of rfl (wp_loadV 53 _ rfl undM infM cb 0 rfl (moL (.pointer (some ⟨tb, 0, none⟩)) s.m) (moL_len _ _) (co_moment HA.out) ?_)
    refine hK.out _ _ (by (try dsimp only); first | assumption | exact ⟨_, _, HA.out⟩) (fun hHeld => ?_)
    clear hK K
    (try simp only [Act.put, List.setIfInBounds_toArray, List.set_cons_zero, List.set_cons_succ])
    refine held.only (i := 10) (by kernel_rfl) rfl (fun K hK => ?_)
    refine step_of rfl (wp_loadV 53 _ rfl undM infM bb 0 rfl (moL (.pointer (some ⟨t0, 0, none⟩)) mb) (moL_len _ _) (At.whole HB.out) ?_)
    refine hK.out _ _ (by (try dsimp only); first | assumption | exact ⟨_, _, HA.out⟩) (fun hHeld => ?_)
    clear hK K
    (try simp only [Act.put, List.setIfInBounds_toArray, List.set_cons_zero, List.set_cons_succ])
    refine held.take (i := 15) (v := .pointer (some ⟨cb, 0, none⟩)) rfl (by kernel_rfl) (by kernel_rfl) (by kernel_rfl) (fun _ _ _ h => h) (Or.inl ⟨by rfl, fun W hW => by (try dsimp only at hW); go_simp⟩) (by assumption) ?_
    (try simp only [Act.put, List.setIfInBounds_toArray, List.set_cons_zero, List.set_cons_succ])
    refine held.take (i := 16) (v := .pointer (some ⟨cb, 0, none⟩)) rfl (by kernel_rfl) (by kernel_rfl) (by kernel_rfl) (fun _ _ _ h => h) (Or.inl ⟨by rfl, fun W hW => by (try dsimp only at hW); go_simp⟩) (by assumption) ?_
    (try simp only [Act.put, List.setIfInBounds_toArray, List.set_cons_zero, List.set_cons_succ])
    refine held.only (i := 17) (by kernel_rfl) rfl (fun K hK => ?_)
    refine step_of rfl (wp_storeCo (.tmp 39) (.tmp 33) rfl HA.out (some ⟨t0, 0, none⟩) mb rfl rfl ?_)
    intro x1 hx1 hO1
    have hb1 := HB.out.same (hO1.block bb (Ne.symm HNE.out))
    have hS1 : ∃ v m, At x1 cb 57 (coL v m (.pointer (some ⟨bb, 0, none⟩)) (.pointer none) (.pointer (some ⟨rb, 0, none⟩)) last s.dirty).toArray := ⟨_, _, hx1⟩
    refine hK.out _ _ (by (try dsimp only); first | assumption | exact ⟨_, _, HA.out⟩) (fun hHeld => ?_)
    clear hK K
    (try simp only [Act.put, List.setIfInBounds_toArray, List.set_cons_zero, List.set_cons_succ])
    refine held.take (i := 18) (v := .pointer (some ⟨bb, 0, none⟩)) rfl (by kernel_rfl) (by kernel_rfl) (by kernel_rfl) (fun _ _ _ h => h) (Or.inl ⟨by rfl, fun W hW => by (try dsimp only at hW); go_simp⟩) (by assumption) ?_
    (try simp only [Act.put, List.setIfInBounds_toArray, List.set_cons_zero, List.set_cons_succ])
    refine held.only (i := 19) (by kernel_rfl) rfl (fun K hK => ?_)
    refine step_of rfl (wp_storeMo (.tmp 40) (.tmp 37) rfl bb _ _ hb1 (some ⟨tb, 0, none⟩) s.m rfl rfl ?_)
    intro x2 hx2 hO2
    have hc2 := hx1.same (hO2.block cb HNE.out)
    have hS2 : ∃ v m, At x2 cb 57 (coL v m (.pointer (some ⟨bb, 0, none⟩)) (.pointer none) (.pointer (some ⟨rb, 0, none⟩)) last s.dirty).toArray := ⟨_, _, hc2⟩
    refine hK.out _ _ (by (try dsimp only); first | assumption | exact ⟨_, _, HA.out⟩) (fun hHeld => ?_)
    clear hK K
    (try simp only [Act.put, List.setIfInBounds_toArray, List.set_cons_zero, List.set_cons_succ])
    refine wpAnyH_done (by kernel_rfl) ?_ _
    refine NoPanic.normal ?_
    obtain ⟨_, _, _, _, _, _, d32⟩ := co_cells hc2
    have f32 := hc2.frozen 32
    have HI := Lib.hid (HE.out x1 x2 hO1 hx1 hO2 hx2)
    have KM3 := Lib.hid (co_moment HI.out.1.at_)
    have KS3 := Lib.hid (mlines_is _ G _ mb HI.out.1.mo)
    go_wp2_with (first
      | (refine wpList_loadV rfl 53 _ rfl undM infM cb 0 rfl _ (moL_len _ _) KM3.out ?_)
      | (go_at_call 30; (with_reducible refine KS3.out.mono ?_); rintro e w4 ⟨x, rfl, hr⟩; obtain ⟨A2, k2, c2, rfl, hL2, hB2⟩ := row_lst hr)
      | fail "NONE")
    go_ret2
    exact HF.out _ w4 A2 k2 c2 HI.out hL2 hB2
end
end Go.Proofs.Ytdbeedhedjhamaa.cor
