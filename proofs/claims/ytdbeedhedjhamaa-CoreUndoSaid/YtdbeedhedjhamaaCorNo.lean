/- Core: what is refused; a buffer that is none. -/
import Derived.Test.YtdbeedhedjhamaaCorUndo
/-! Core: Abort. -/
namespace Go.Proofs.Ytdbeedhedjhamaa.cor
open Go.RowKit Go.Lib pce sps mrk
set_option linter.unusedVariables false
set_option linter.unusedSimpArgs false
set_option linter.unnecessarySimpa false
set_option linter.unusedSectionVars false

section
variable {n cb gb kb rb : Nat} {w0 w w' : World} {G G' : Nat → Prop} {s : S} {u v bk gn : Value} {o : Option M} {last : ByteArray} {m : M}
/-- What is left of a change that is left undone. -/
def AbortSays (n : Nat) (w0 w : World) (cb : Nat) (s : S) (G : Nat → Prop) (m0 : M) (e : Ending) (w' : World) : Prop := e = .returned (.tuple #[]) ∧ Cr n w0 cb ⟨m0, s.back, none, s.dirty⟩ G w' ∧ Went G G w w'
theorem cr_abort {w1 w2 : World} {tb t0 mk : Nat} {m0 : M} {es : Array MapEntry} {ck : Nat} (h : Cr n w0 cb s G w) (hi : Is n w G cb s (.pointer (some ⟨tb, 0, none⟩)) bk (.pointer (some ⟨gb, 0, none⟩)) rb last)
    (hM0 : Mo w G (.pointer (some ⟨t0, 0, none⟩)) m0) (hmk : ¬ G mk) (hmh : w.heap[mk]? = some (.map es ck))
    (hO1 : Only cb w w1) (hA1 : At w1 cb 57 (coL (.pointer (some ⟨t0, 0, none⟩)) m0 bk (.pointer (some ⟨gb, 0, none⟩)) (.pointer (some ⟨rb, 0, none⟩)) last s.dirty).toArray)
    (hT2 : Turned (fun b => b = rb) w1 w2) (hz2 : w2.heap.size = w1.heap.size) (hR2 : At w2 rb 72 #[.map (some mk)]) :
    AbortSays n w0 w cb s G m0 (.returned (.tuple #[])) (w2.setCell ⟨cb, 29, none⟩ (.pointer none)) := by
  have nrc : rb ≠ cb := hi.rg.ne hi.at_ (by decide)
  have hO3 : Only cb w2 (w2.setCell ⟨cb, 29, none⟩ (.pointer none)) := Only.cell _ _ _ _
  have hA3 := co_set29 (hA1.same (hT2.block cb hA1.lt (Ne.symm nrc))) (.pointer none)
  have hR3 := hR2.same (hO3.block rb nrc)
  have z3 := hO3.size
  have z1 := hO1.size
  generalize w2.setCell ⟨cb, 29, none⟩ (.pointer none) = w3 at *
  have hT : Turned (fun b => b = cb ∨ b = rb) w w3 := ((Turned.of_only (G := fun b => b = cb ∨ b = rb) hO1 (.inl rfl)).trans hT2 (fun i hi => .inl (.inr hi))).then_only hO3 (.inl (.inl rfl))
  have hW : Went G G w w3 := ⟨hT.mono (fun b hb => hb.elim (fun e => e ▸ hi.gc) (fun e => e ▸ hi.gr)), fun b hb => .inl hb⟩
  have hml : mk < w.heap.size := (Array.getElem?_eq_some_iff.1 hmh).1
  have hbk := hi.back.turned hW (fun b ⟨cs, hb⟩ => hT.block b hb.lt (fun hx => hx.elim (At.ne hb hi.at_ (by decide)) (fun e => by
    obtain ⟨_, _, _, h1, _, _⟩ := hi.rg
    exact At.ne hb h1 (by decide) e))) (fun b hb => hb)
  refine ⟨rfl, h.turned hW (fun b hb => by rw [z3, hz2, z1]; exact (h.g b hb).2) (⟨hA3, hi.gc, hi.gr, hM0.went hW, ⟨mk, es, ck, hR3, hmk, (hW.t.block mk hml hmk).trans hmh⟩, hbk, rfl⟩ : Is n w3 G cb ⟨m0, s.back, none, s.dirty⟩ (.pointer (some ⟨t0, 0, none⟩)) bk (.pointer none) rb last), hW⟩
set_option maxHeartbeats 4000000 in
set_option maxRecDepth 100000 in
theorem abort_is (h : Cr n w0 cb s G w) (m0 : M) (ts : List Ct) (hbg : s.begun = some (m0, ts)) :
    Calls Try.prog 11 #[.pointer (some ⟨cb, 0, none⟩)] w (AbortSays n w0 w cb s G m0) := by
  have KN := Lib.hid (isNone_is h)
  obtain ⟨v, bk, gn, rb, last, hi⟩ := h.is
  have hG := fun b (hb : G b) => (h.g b hb).2
  have hgn := hi.begun
  rw [hbg] at hgn
  obtain ⟨gb, v0, kb, sl, rfl, hg, hAg, hM0, hRk, hkG, hSp⟩ := hgn
  obtain ⟨tb, rfl, _, _, _, c29, _⟩ := hi.cells
  obtain ⟨t0, rfl⟩ := hM0.ptr
  obtain ⟨mr, er, cr, hRr, hmr, hhr⟩ := hi.rg
  obtain ⟨mk, es, ck, hRkk, hmk, hhk⟩ := hRk
  have ncg : cb ≠ gb := At.ne hi.at_ hAg (by decide)
  have ncr : cb ≠ rb := At.ne hi.at_ hRr (by decide)
  have nck : cb ≠ kb := At.ne hi.at_ hRkk (by decide)
  have nrk : rb ≠ kb := fun e => hkG (e ▸ hi.gr)
  have HA := Lib.hid hi.at_
  have HM := Lib.hid (ch_moment hAg)
  have HG28 : Hid (∀ w1, Only cb w w1 → w1.cell? ⟨gb, 28, none⟩ = some (.pointer (some ⟨kb, 0, none⟩))) := Lib.hid fun w1 h1 => (ch_cells (hAg.same (h1.block gb (Ne.symm ncg)))).1
  have HK : Hid (∀ w1, Only cb w w1 → ∀ W, Turned (fun b => b = rb) w1 W → At w1 cb 57 (coL (.pointer (some ⟨t0, 0, none⟩)) m0 bk (.pointer (some ⟨gb, 0, none⟩)) (.pointer (some ⟨rb, 0, none⟩)) last s.dirty).toArray → W.cell? ⟨cb, 30, none⟩ = some (.pointer (some ⟨rb, 0, none⟩)) ∧ W.rangeAt kb 0 [.map (some mk)]) := Lib.hid fun w1 h1 W hW hA => by
    have hk1 := hRkk.same (h1.block kb (Ne.symm nck))
    exact ⟨(co_cells (hW.at hA ncr)).2.2.2.2.1, At.whole (hW.at hk1 (Ne.symm nrk))⟩
  have HR : Hid (∀ w1, Only cb w w1 → At w1.drew rb 72 ([] ++ [Value.map (some mr)] ++ []).toArray) := Lib.hid fun w1 h1 => hRr.same (h1.block rb (Ne.symm ncr))
  have HE := Lib.hid (fun w1 w2 a1 a2 a3 a4 a5 => @cr_abort n cb gb rb w0 w G s bk last w1 w2 tb t0 mk m0 es ck h hi hM0 hmk hhk a1 a2 a3 a4 a5)
  clear hi h hG hAg hM0 hRr hmr hhr hRkk hmk hhk hkG hSp ncg nck nrk hg
  go_enter Try.func11, Try.ntmps11
  go_wp2_with (first
    | (go_at_call 28; (with_reducible refine KN.out.mono ?_); rintro e w2 ⟨rfl, rfl⟩)
    | (refine wpList_loadV rfl 53 _ rfl undM infM gb 0 rfl _ (moL_len _ _) HM.out ?_)
    | (refine wpList_storeCo rfl (.tmp 21) (.tmp 19) rfl HA.out (some ⟨t0, 0, none⟩) m0 rfl rfl ?_; intro w1 hA1 hO1; have d29 := (co_cells hA1).2.2.2.1; have d28 := HG28.out w1 hO1)
    | fail "NONE")
  have KC : Hid (∀ W, Turned (fun b => b = rb) w1 W → W.cell? ⟨cb, 30, none⟩ = some (.pointer (some ⟨rb, 0, none⟩)) ∧ W.rangeAt kb 0 [.map (some mk)]) := Lib.hid fun W hW => HK.out w1 hO1 W hW hA1
  have KR : Hid (Turned (fun b => b = rb) w1 w1.drew) := Lib.hid (.of_below (below_drew (Below.refl _ _)) _)
  have HR1 := Lib.hid (HR.out w1 hO1)
  clear d29 d28
  refine wp_region_noPanic ?_
  refine wp_region_held_drew (S := fun W => Turned (fun b => b = rb) w1 W) (by kernel_rfl) (by (try dsimp only); first | assumption | exact KR.out) (fun hHeld => ?_)
  refine held.take (i := 0) (v := .pointer (some ⟨cb, 0, none⟩)) rfl (by kernel_rfl) (by kernel_rfl) (by kernel_rfl) (fun _ _ _ h => h) (Or.inl ⟨by rfl, fun W hW => by (try dsimp only at hW); go_simp⟩) (by assumption) ?_
  (try simp only [Act.put, List.setIfInBounds_toArray, List.set_cons_zero, List.set_cons_succ])
  refine held.take (i := 1) (v := .pointer (some ⟨cb, 0, none⟩)) rfl (by kernel_rfl) (by kernel_rfl) (by kernel_rfl) (fun _ _ _ h => h) (Or.inl ⟨by rfl, fun W hW => by (try dsimp only at hW); go_simp⟩) (by assumption) ?_
  (try simp only [Act.put, List.setIfInBounds_toArray, List.set_cons_zero, List.set_cons_succ])
  refine held.take (i := 2) (v := .pointer (some ⟨cb, 30, none⟩)) rfl (by kernel_rfl) (by kernel_rfl) (by kernel_rfl) (fun _ _ _ h => h) (Or.inl ⟨by rfl, fun W hW => by (try dsimp only at hW); go_simp⟩) (by assumption) ?_
  (try simp only [Act.put, List.setIfInBounds_toArray, List.set_cons_zero, List.set_cons_succ])
  refine held.take (i := 3) (v := .pointer (some ⟨rb, 0, none⟩)) rfl (by kernel_rfl) (by kernel_rfl) (by kernel_rfl) (fun _ _ _ h => h) (Or.inl ⟨by rfl, fun W hW => by (try dsimp only at hW); have c30 := (KC.out W hW).1; go_simp⟩) (by assumption) ?_
  (try simp only [Act.put, List.setIfInBounds_toArray, List.set_cons_zero, List.set_cons_succ])
  refine held.take (i := 4) (v := .pointer (some ⟨kb, 0, none⟩)) rfl (by kernel_rfl) (by kernel_rfl) (by kernel_rfl) (fun _ _ _ h => h) (Or.inl ⟨by rfl, fun W hW => by (try dsimp only at hW); go_simp⟩) (by assumption) ?_
  (try simp only [Act.put, List.setIfInBounds_toArray, List.set_cons_zero, List.set_cons_succ])
  refine held.take (i := 5) (v := .pointer (some ⟨kb, 0, none⟩)) rfl (by kernel_rfl) (by kernel_rfl) (by kernel_rfl) (fun _ _ _ h => h) (Or.inl ⟨by rfl, fun W hW => by (try dsimp only at hW); go_simp⟩) (by assumption) ?_
  (try simp only [Act.put, List.setIfInBounds_toArray, List.set_cons_zero, List.set_cons_succ])
  refine held.take (i := 6) (v := .agg #[.map (some mk)]) rfl (by kernel_rfl) (by kernel_rfl) (by kernel_rfl) (fun _ _ _ h => h) (yields_loadV (by rfl) _ _ rfl undR infR kb 0 rfl [.map (some mk)] rfl (fun W hW => (KC.out W hW).2)) (by assumption) ?_
  (try simp only [Act.put, List.setIfInBounds_toArray, List.set_cons_zero, List.set_cons_succ])
  refine held.take (i := 7) (v := .pointer (some ⟨rb, 0, none⟩)) rfl (by kernel_rfl) (by kernel_rfl) (by kernel_rfl) (fun _ _ _ h => h) (Or.inl ⟨by rfl, fun W hW => by (try dsimp only at hW); go_simp⟩) (by assumption) ?_
  (try simp only [Act.put, List.setIfInBounds_toArray, List.set_cons_zero, List.set_cons_succ])
  refine held.only (i := 8) (by kernel_rfl) rfl (fun K hK => ?_)
  refine step_of rfl (wp_storeM 72 (.tmp 38) (.tmp 37) rfl rb 72 [] [.map (some mr)] [] HR1.out [.map (some mk)] rfl 0 rfl rfl rfl infR (by simp [Value.oneCell']) ?_)
  intro w2 hR2 hO2
  have hT2 : Turned (fun b => b = rb) w1 w2 := KR.out.then_only hO2 (.inl rfl)
  refine hK.out _ _ (by (try dsimp only); first | assumption | exact KR.out) (fun hHeld => ?_)
  clear hK K
  (try simp only [Act.put, List.setIfInBounds_toArray, List.set_cons_zero, List.set_cons_succ])
  refine wpAnyH_done (by kernel_rfl) ?_ _
  refine NoPanic.normal ?_
  have hA2 := Turned.at hT2 hA1 ncr
  have e29 := (co_cells hA2).2.2.2.1
  have f29 := hA2.frozen 29
  have hz2 : w2.heap.size = w1.heap.size := hO2.size
  have HA2 := Lib.hid hA2
  clear hA2
  go_wp2
  go_end0
  exact HE.out w1 w2 hO1 hA1 hT2 hz2 hR2
end
end Go.Proofs.Ytdbeedhedjhamaa.cor

/-! Core: what is refused; a buffer that is none. -/
namespace Go.Proofs.Ytdbeedhedjhamaa.cor
open Go.RowKit Go.Lib pce sps mrk
set_option linter.unusedVariables false
set_option linter.unusedSimpArgs false
set_option linter.unnecessarySimpa false
set_option linter.unusedSectionVars false

section
variable {n cb : Nat} {w0 w w' : World} {G : Nat → Prop} {s : S}
theorem Cr.c29 (h : Cr n w0 cb s G w) : (s.begun = none ∧ w.cell? ⟨cb, 29, none⟩ = some (.pointer none)) ∨ (∃ q gb, s.begun = some q ∧ w.cell? ⟨cb, 29, none⟩ = some (.pointer (some ⟨gb, 0, none⟩))) := by
  obtain ⟨v, bk, gn, rb, last, hi⟩ := h.is
  have hc := (co_cells hi.at_).2.2.2.1
  have hb := hi.begun
  cases hs : s.begun with
  | none => rw [hs] at hb; subst hb; exact .inl ⟨rfl, hc⟩
  | some q =>
    rw [hs] at hb
    obtain ⟨m, ts⟩ := q
    obtain ⟨gb, v0, kb, sl, rfl, _⟩ := hb
    exact .inr ⟨_, gb, rfl, hc⟩
theorem Cr.c28 (h : Cr n w0 cb s G w) (hb : s.back = none) : w.cell? ⟨cb, 28, none⟩ = some (.pointer none) := by
  obtain ⟨v, bk, gn, rb, last, hi⟩ := h.is
  have hk := hi.back
  rw [hb] at hk
  rw [(co_cells hi.at_).2.2.1, hk]
theorem begun_none (h : Cr n w0 cb s G w) (hb : s.begun = none) : w.cell? ⟨cb, 29, none⟩ = some (.pointer none) := by
  rcases h.c29 with ⟨_, h1⟩ | ⟨q, gb, h1, _⟩
  · exact h1
  · rw [hb] at h1; cases h1
theorem begun_some (h : Cr n w0 cb s G w) {q : M × List Ct} (hb : s.begun = some q) : ∃ gb, w.cell? ⟨cb, 29, none⟩ = some (.pointer (some ⟨gb, 0, none⟩)) := by
  rcases h.c29 with ⟨h1, _⟩ | ⟨_, gb, _, h1⟩
  · rw [hb] at h1; cases h1
  · exact ⟨gb, h1⟩
theorem begin_no (h : Cr n w0 cb s G w) {q : M × List Ct} (hb : s.begun = some q) : Calls Try.prog 20 #[.pointer (some ⟨cb, 0, none⟩)] w fun e w' => e = .returned (.int .i64 2) ∧ w = w' := by
  have KN := Lib.hid (isNone_is h)
  obtain ⟨gb, c29⟩ := begun_some h hb
  clear h
  go_enter Try.func20, Try.ntmps20
  go_wp2_with (go_at_call 28; (with_reducible refine KN.out.mono ?_); rintro e w2 ⟨rfl, rfl⟩)
  go_ret
  exact ⟨rfl, rfl⟩
theorem splice_none (h : Cr n w0 cb s G w) (hb : s.begun = none) (a d : Int) (A : Option Addr) (k c : Nat) : Calls Try.prog 21 #[.pointer (some ⟨cb, 0, none⟩), .agg #[.int .i64 a, .int .i64 d, .slice A k c]] w fun e w' => e = .returned (.int .i64 2) ∧ Below w.heap.size w w' := by
  have hB1 : Below w.heap.size w (w.alloc (.cells #[.int .i64 a, .int .i64 d, .slice A k c] 24)) := (Below.refl _ _).alloc (Nat.le_refl _) _
  have KN := Lib.hid (isNone_is (h.move hB1))
  have c29 := begun_none (h.move hB1) hb
  have HB := Lib.hid hB1
  clear h hB1
  go_enter Try.func21, Try.ntmps21
  go_wp2_with (first
    | (refine wpList_boxV rfl 24 _ rfl _ rfl ?_)
    | (go_at_call 28; (with_reducible refine KN.out.mono ?_); rintro e w2 ⟨rfl, rfl⟩)
    | fail "NONE")
  go_ret
  exact ⟨rfl, HB.out⟩
theorem end_none (h : Cr n w0 cb s G w) (hb : s.begun = none) : Calls Try.prog 22 #[.pointer (some ⟨cb, 0, none⟩)] w fun e w' => e = .returned (.slice none 0 0) ∧ w = w' := by
  have KN := Lib.hid (isNone_is h)
  have c29 := begun_none h hb
  clear h
  go_enter Try.func22, Try.ntmps22
  go_wp2_with (go_at_call 28; (with_reducible refine KN.out.mono ?_); rintro e w2 ⟨rfl, rfl⟩)
  go_ret
  exact ⟨rfl, rfl⟩
theorem abort_none (h : Cr n w0 cb s G w) (hb : s.begun = none) : Calls Try.prog 11 #[.pointer (some ⟨cb, 0, none⟩)] w fun e w' => e = .returned (.tuple #[]) ∧ w = w' := by
  have KN := Lib.hid (isNone_is h)
  have c29 := begun_none h hb
  clear h
  go_enter Try.func11, Try.ntmps11
  go_wp2_with (go_at_call 28; (with_reducible refine KN.out.mono ?_); rintro e w2 ⟨rfl, rfl⟩)
  refine bodyPost_ret (results_none rfl _ _ _) rfl ?_
  exact ⟨rfl, rfl⟩
theorem undo_begun (h : Cr n w0 cb s G w) {q : M × List Ct} (hb : s.begun = some q) : Calls Try.prog 7 #[.pointer (some ⟨cb, 0, none⟩)] w fun e w' => e = .returned (.tuple #[.slice none 0 0, .int .i64 2]) ∧ w = w' := by
  have KN := Lib.hid (isNone_is h)
  obtain ⟨gb, c29⟩ := begun_some h hb
  clear h
  go_enter Try.func7, Try.ntmps7
  go_wp2_with (go_at_call 28; (with_reducible refine KN.out.mono ?_); rintro e w2 ⟨rfl, rfl⟩)
  go_ret2
  exact ⟨rfl, rfl⟩
theorem undo_none (h : Cr n w0 cb s G w) (hb : s.begun = none) (hk : s.back = none) : Calls Try.prog 7 #[.pointer (some ⟨cb, 0, none⟩)] w fun e w' => e = .returned (.tuple #[.slice none 0 0, .int .i64 190]) ∧ w = w' := by
  have KN := Lib.hid (isNone_is h)
  have c29 := begun_none h hb
  have c28 := h.c28 hk
  clear h
  go_enter Try.func7, Try.ntmps7
  go_wp2_with (go_at_call 28; (with_reducible refine KN.out.mono ?_); rintro e w2 ⟨rfl, rfl⟩)
  go_ret2
  exact ⟨rfl, rfl⟩
end
section
variable {w : World} {u : Value}
theorem none_Undo (h : NoC w u) : Calls Try.prog 7 #[u] w fun e w' => e = .returned (.tuple #[.slice none 0 0, .int .i64 1]) ∧ w = w' := by
  have KN := Lib.hid (isNone_no w u h)
  clear h
  go_enter Try.func7, Try.ntmps7
  go_wp2_with (go_at_call 28; (with_reducible refine KN.out.mono ?_); rintro e w2 ⟨rfl, rfl⟩)
  go_ret2
  exact ⟨rfl, rfl⟩
theorem none_Last (h : NoC w u) (t : ByteArray) : Calls Try.prog 9 #[u, .string t] w fun e w' => e = .returned (.tuple #[]) ∧ w = w' := by
  have KN := Lib.hid (isNone_no w u h)
  clear h
  go_enter Try.func9, Try.ntmps9
  go_wp2_with (go_at_call 28; (with_reducible refine KN.out.mono ?_); rintro e w2 ⟨rfl, rfl⟩)
  refine bodyPost_ret (results_none rfl _ _ _) rfl ?_
  exact ⟨rfl, rfl⟩
theorem none_Clean (h : NoC w u) : Calls Try.prog 10 #[u] w fun e w' => e = .returned (.tuple #[]) ∧ w = w' := by
  have KN := Lib.hid (isNone_no w u h)
  clear h
  go_enter Try.func10, Try.ntmps10
  go_wp2_with (go_at_call 28; (with_reducible refine KN.out.mono ?_); rintro e w2 ⟨rfl, rfl⟩)
  refine bodyPost_ret (results_none rfl _ _ _) rfl ?_
  exact ⟨rfl, rfl⟩
theorem none_Abort (h : NoC w u) : Calls Try.prog 11 #[u] w fun e w' => e = .returned (.tuple #[]) ∧ w = w' := by
  have KN := Lib.hid (isNone_no w u h)
  clear h
  go_enter Try.func11, Try.ntmps11
  go_wp2_with (go_at_call 28; (with_reducible refine KN.out.mono ?_); rintro e w2 ⟨rfl, rfl⟩)
  refine bodyPost_ret (results_none rfl _ _ _) rfl ?_
  exact ⟨rfl, rfl⟩
theorem none_N (h : NoC w u) : Calls Try.prog 12 #[u] w fun e w' => e = .returned (.int .i64 0) ∧ w = w' := by
  have KN := Lib.hid (isNone_no w u h)
  clear h
  go_enter Try.func12, Try.ntmps12
  go_wp2_with (go_at_call 28; (with_reducible refine KN.out.mono ?_); rintro e w2 ⟨rfl, rfl⟩)
  go_ret
  exact ⟨rfl, rfl⟩
theorem none_Line (h : NoC w u) (i : Int) : Calls Try.prog 13 #[u, .int .i64 i] w fun e w' => e = .returned (.string ⟨#[]⟩) ∧ w = w' := by
  have KN := Lib.hid (isNone_no w u h)
  clear h
  go_enter Try.func13, Try.ntmps13
  go_wp2_with (go_at_call 28; (with_reducible refine KN.out.mono ?_); rintro e w2 ⟨rfl, rfl⟩)
  go_ret
  exact ⟨rfl, rfl⟩
theorem none_Lines (h : NoC w u) (i : Int) (j : Int) : Calls Try.prog 14 #[u, .int .i64 i, .int .i64 j] w fun e w' => e = .returned (.slice none 0 0) ∧ w = w' := by
  have KN := Lib.hid (isNone_no w u h)
  clear h
  go_enter Try.func14, Try.ntmps14
  go_wp2_with (go_at_call 28; (with_reducible refine KN.out.mono ?_); rintro e w2 ⟨rfl, rfl⟩)
  go_ret
  exact ⟨rfl, rfl⟩
theorem none_Cur (h : NoC w u) : Calls Try.prog 15 #[u] w fun e w' => e = .returned (.int .i64 0) ∧ w = w' := by
  have KN := Lib.hid (isNone_no w u h)
  clear h
  go_enter Try.func15, Try.ntmps15
  go_wp2_with (go_at_call 28; (with_reducible refine KN.out.mono ?_); rintro e w2 ⟨rfl, rfl⟩)
  go_ret
  exact ⟨rfl, rfl⟩
theorem none_Go (h : NoC w u) (i : Int) : Calls Try.prog 16 #[u, .int .i64 i] w fun e w' => e = .returned (.int .i64 1) ∧ w = w' := by
  have KN := Lib.hid (isNone_no w u h)
  clear h
  go_enter Try.func16, Try.ntmps16
  go_wp2_with (go_at_call 28; (with_reducible refine KN.out.mono ?_); rintro e w2 ⟨rfl, rfl⟩)
  go_ret
  exact ⟨rfl, rfl⟩
theorem none_Mark (h : NoC w u) (i : Int) (j : Int) : Calls Try.prog 17 #[u, .int .u8 i, .int .i64 j] w fun e w' => e = .returned (.int .i64 1) ∧ w = w' := by
  have KN := Lib.hid (isNone_no w u h)
  clear h
  go_enter Try.func17, Try.ntmps17
  go_wp2_with (go_at_call 28; (with_reducible refine KN.out.mono ?_); rintro e w2 ⟨rfl, rfl⟩)
  go_ret
  exact ⟨rfl, rfl⟩
theorem none_Regs (h : NoC w u) : Calls Try.prog 18 #[u] w fun e w' => e = .returned (.pointer none) ∧ w = w' := by
  have KN := Lib.hid (isNone_no w u h)
  clear h
  go_enter Try.func18, Try.ntmps18
  go_wp2_with (go_at_call 28; (with_reducible refine KN.out.mono ?_); rintro e w2 ⟨rfl, rfl⟩)
  go_ret
  exact ⟨rfl, rfl⟩
theorem none_Dirty (h : NoC w u) : Calls Try.prog 19 #[u] w fun e w' => e = .returned (.bool false) ∧ w = w' := by
  have KN := Lib.hid (isNone_no w u h)
  clear h
  go_enter Try.func19, Try.ntmps19
  go_wp2_with (go_at_call 28; (with_reducible refine KN.out.mono ?_); rintro e w2 ⟨rfl, rfl⟩)
  go_ret
  exact ⟨rfl, rfl⟩
theorem none_Begin (h : NoC w u) : Calls Try.prog 20 #[u] w fun e w' => e = .returned (.int .i64 1) ∧ w = w' := by
  have KN := Lib.hid (isNone_no w u h)
  clear h
  go_enter Try.func20, Try.ntmps20
  go_wp2_with (go_at_call 28; (with_reducible refine KN.out.mono ?_); rintro e w2 ⟨rfl, rfl⟩)
  go_ret
  exact ⟨rfl, rfl⟩
theorem none_End (h : NoC w u) : Calls Try.prog 22 #[u] w fun e w' => e = .returned (.slice none 0 0) ∧ w = w' := by
  have KN := Lib.hid (isNone_no w u h)
  clear h
  go_enter Try.func22, Try.ntmps22
  go_wp2_with (go_at_call 28; (with_reducible refine KN.out.mono ?_); rintro e w2 ⟨rfl, rfl⟩)
  go_ret
  exact ⟨rfl, rfl⟩
theorem none_Splice (h : NoC w u) (a d : Int) (A : Option Addr) (k c : Nat) : Calls Try.prog 21 #[u, .agg #[.int .i64 a, .int .i64 d, .slice A k c]] w fun e w' => e = .returned (.int .i64 1) ∧ Below w.heap.size w w' := by
  have hB1 : Below w.heap.size w (w.alloc (.cells #[.int .i64 a, .int .i64 d, .slice A k c] 24)) := (Below.refl _ _).alloc (Nat.le_refl _) _
  have KN := Lib.hid (isNone_no _ u (h.below hB1))
  have HB := Lib.hid hB1
  clear h hB1
  go_enter Try.func21, Try.ntmps21
  go_wp2_with (first
    | (refine wpList_boxV rfl 24 _ rfl _ rfl ?_)
    | (go_at_call 28; (with_reducible refine KN.out.mono ?_); rintro e w2 ⟨rfl, rfl⟩)
    | fail "NONE")
  go_ret
  exact ⟨rfl, HB.out⟩
theorem none_View (h : NoC w u) : Calls Try.prog 8 #[u] w fun e w' => e = .returned (.agg (viL (.slice none 0 0) zeroM ⟨#[]⟩).toArray) ∧ Below w.heap.size w w' := by
  obtain ⟨w1, hw1⟩ : ∃ w1, w.alloc (.cells (viL (.slice none 0 0) zeroM ⟨#[]⟩).toArray 38) = w1 := ⟨_, rfl⟩
  have hS1 : StV w w1 := hw1 ▸ StV.start w _ _ _
  have KN := Lib.hid (isNone_no w1 u (h.below hS1.1))
  have HS := Lib.hid hS1
  have HA : Hid (At w1 w.heap.size 38 (viL (.slice none 0 0) zeroM ⟨#[]⟩).toArray) := Lib.hid (hw1 ▸ At.new w _ _)
  clear h hS1
  go_enter Try.func8, Try.ntmps8
  go_wp2_with (first
    | (refine wpList_allocV rfl 38 rfl _ (zerV _) ?_; rw [hw1]; clear hw1)
    | (go_at_call 28; (with_reducible refine KN.out.mono ?_); rintro e w2 ⟨rfl, rfl⟩)
    | (refine wpList_buildV rfl 38 _ rfl #[] (by simp) _ bldV0 ?_)
    | (refine wpList_storeM rfl 38 (.tmp 2) (.tmp 5) rfl w.heap.size 38 [] (viL (.slice none 0 0) zeroM ⟨#[]⟩) [] (by rw [List.nil_append, List.append_nil]; exact HA.out) (viL (.slice none 0 0) zeroM ⟨#[]⟩) rfl 0 rfl rfl rfl (by rw [vi_len]; exact infV) (vi_one rfl) ?_; intro w4 hA4 hO4)
    | fail "NONE")
  rw [List.nil_append, List.append_nil] at hA4
  refine bodyPost_ret (results_V1 38 undV infV Try.results8 (by rfl) vi_len (At.whole hA4)) (by rfl) ?_
  exact ⟨rfl, HS.out.1.trans (hO4.below (Nat.le_refl _))⟩
end
end Go.Proofs.Ytdbeedhedjhamaa.cor
