/- Core: End. -/
import Derived.Test.YtdbeedhedjhamaaCorSplice
namespace Go.Proofs.Ytdbeedhedjhamaa.cor
open Go.RowKit Go.Lib pce sps mrk
set_option linter.unusedVariables false
set_option linter.unusedSimpArgs false
set_option linter.unnecessarySimpa false
set_option linter.unusedSectionVars false

theorem vrd_own {w : World} {base e size n c : Nat} {A : Option Addr} {vs : List Value} (h : w.ownsRow base e size (.slice A n c) n vs) : VRd w (fun b => (Value.slice A n c).ownBlock = some b) A vs := fun hn => by
  rcases h.2 with ⟨hv, h0⟩ | ⟨g, cap, cur, hv, hg, hh, _⟩
  · have := h.1; rw [h0] at this; omega
  · injection hv with hA
    subst hA
    refine ⟨g, 0, rfl, rfl, At.lt hh, fun j u hj => ?_⟩
    have := h.cells (g := g) rfl j u hj
    rwa [Go.WideShapes.add_plain] at this
section
variable {n cb gb kb rb : Nat} {w0 w w' : World} {G G' : Nat → Prop} {s : S} {u v bk gn : Value} {o : Option M} {last : ByteArray} {m : M}
theorem Mo.less (h : Mo w G v m) (hG : ∀ b, G' b → G b) : Mo w G' v m := ⟨by obtain ⟨ps, h1, h2⟩ := h.tab; exact ⟨ps, h1.mono (fun b hb _ hg => hb (hG b hg)), h2⟩, h.c0, h.c1, h.ints⟩
/-- Of what a buffer may turn less: where no change has begun. -/
theorem Is.less (h : Is n w G cb s v bk gn rb last) (hb : s.begun = none) (hG : ∀ b, G' b → G b) (hc : G' cb) (hr : G' rb) (hk : ∀ b, bk = .pointer (some ⟨b, 0, none⟩) → G' b) : Is n w G' cb s v bk gn rb last := by
  refine ⟨h.at_, hc, hr, h.mo.less hG, ?_, ?_, ?_⟩
  · obtain ⟨mb, es, ck, h1, h2, h3⟩ := h.rg
    exact ⟨mb, es, ck, h1, fun hg => h2 (hG _ hg), h3⟩
  · have h1 := h.back
    cases hs : s.back with
    | none => rw [hs] at h1; exact h1
    | some m =>
      rw [hs] at h1
      obtain ⟨bb, v, rfl, k1, k2, k3⟩ := h1
      exact ⟨bb, v, rfl, hk bb rfl, k2, k3.less hG⟩
  · have h1 := h.begun
    rw [hb] at h1 ⊢
    exact h1
/-- What End tells of a change that has begun. -/
def EndSays (n : Nat) (w0 w : World) (cb : Nat) (s : S) (G : Nat → Prop) (m0 : M) (ts : List Ct) (e : Ending) (w' : World) : Prop := ∃ G', Went G G' w w' ∧
  ((ts = [] ∧ e = .returned (.slice none 0 0) ∧ Cr n w0 cb ⟨s.m, s.back, none, s.dirty⟩ G' w') ∨
   (ts ≠ [] ∧ ∃ A c, e = .returned (.slice A ts.length c) ∧ ts.length ≤ c ∧ Cuts w' (fun b => ¬ G' b) A ts ∧ Cr n w0 cb ⟨s.m, some m0, none, true⟩ G' w'))
theorem cr_end0 {w6 : World} {tb t0 bA : Nat} {m0 : M} (h : Cr n w0 cb s G w) (hi : Is n w G cb s (.pointer (some ⟨tb, 0, none⟩)) bk (.pointer (some ⟨gb, 0, none⟩)) rb last) (hB6 : Below w.heap.size w w6) :
    EndSays n w0 w cb s G m0 [] (.returned (.slice none 0 0)) (w6.setCell ⟨cb, 29, none⟩ (.pointer none)) := by
  have hG := fun b (hb : G b) => (h.g b hb).2
  have hi6 := hi.move hB6 hG
  have hO : Only cb w6 (w6.setCell ⟨cb, 29, none⟩ (.pointer none)) := Only.cell _ _ _ _
  have hi7 := hi6.turn (p' := none) hO (co_set29 hi6.at_ (.pointer none)) hi6.mo hi6.back rfl
  have hW := (Went.of_below hB6).trans (.of_only hO hi.gc)
  exact ⟨G, hW, .inl ⟨rfl, rfl, h.turned hW (fun b hb => by rw [hO.size]; exact Nat.lt_of_lt_of_le (hG b hb) hB6.size) hi7⟩⟩
theorem cr_end1 {w6 wB : World} {tb t0 tb' : Nat} {m0 : M} {ts : List Ct} {A : Option Addr} {c bA : Nat} {ps' : List Pc}
    (h : Cr n w0 cb s G w) (hi : Is n w G cb s (.pointer (some ⟨tb, 0, none⟩)) bk (.pointer (some ⟨gb, 0, none⟩)) rb last) (hM0 : Mo w G (.pointer (some ⟨t0, 0, none⟩)) m0) (hSp : Sps n w G (.slice A ts.length c) ts) (hc : ts.length ≤ c) (hts : ts ≠ [])
    (hB6 : Below w.heap.size w w6) (hA6 : At w6 bA 53 (moL (.pointer (some ⟨t0, 0, none⟩)) m0).toArray) (hbA : w.heap.size ≤ bA)
    (hBB : Below (w6.setCell ⟨cb, 29, none⟩ (.pointer none)).heap.size (w6.setCell ⟨cb, 29, none⟩ (.pointer none)) wB) (hT : Tab wB ((w6.setCell ⟨cb, 29, none⟩ (.pointer none)).heap.size ≤ ·) (.pointer (some ⟨tb', 0, none⟩)) ps') (hx : texts ps' = s.m.L) :
    EndSays n w0 w cb s G m0 ts (.returned (.slice A ts.length c)) (((wB.setCell ⟨cb, 0, none⟩ (.pointer (some ⟨tb', 0, none⟩))).setCell ⟨cb, 28, none⟩ (.pointer (some ⟨bA, 0, none⟩))).setCell ⟨cb, 32, none⟩ (.bool true)) := by
  have hG := fun b (hb : G b) => (h.g b hb).2
  have hlA := hA6.lt
  have z6 := hB6.size
  have hcl := hi.at_.lt
  have hOA : Only cb w6 (w6.setCell ⟨cb, 29, none⟩ (.pointer none)) := Only.cell _ _ _ _
  have hi6 := hi.grow (G' := fun b => G b ∨ b = bA) hB6 hG (fun b hb => .inl hb) (fun b hb => hb.elim .inl (fun e => .inr (by omega)))
  have hG6 : ∀ b, (G b ∨ b = bA) → b < w6.heap.size := fun b hb => hb.elim (fun h => Nat.lt_of_lt_of_le (hG b h) z6) (fun e => by omega)
  have hiA := hi6.turn (p' := none) hOA (co_set29 hi6.at_ (.pointer none)) hi6.mo hi6.back rfl
  have hAA : At (w6.setCell ⟨cb, 29, none⟩ (.pointer none)) bA 53 (moL (.pointer (some ⟨t0, 0, none⟩)) m0).toArray := hA6.same (hOA.block bA (by omega))
  have zA := hOA.size
  have zB := hBB.size
  generalize w6.setCell ⟨cb, 29, none⟩ (.pointer none) = wA at *
  have hiB := hiA.move hBB (fun b hb => by rw [zA]; exact hG6 b hb)
  have hMB : Mo wB (fun b => G b ∨ b = bA) (.pointer (some ⟨t0, 0, none⟩)) m0 :=
    (hM0.went (⟨.of_below hB6 _, fun b hb => hb.elim .inl (fun e => .inr (by omega))⟩ : Went G (fun b => G b ∨ b = bA) w w6)).went ((Went.of_only hOA (.inl hi.gc)).trans (.of_below hBB))
  have hAB := hAA.same (hBB.block bA (by omega))
  have hO1 : Only cb wB (wB.setCell ⟨cb, 0, none⟩ (.pointer (some ⟨tb', 0, none⟩))) := Only.cell _ _ _ _
  have hi1 := hiB.turn hO1 (co_set0 hiB.at_ (.pointer (some ⟨tb', 0, none⟩))) (⟨⟨ps', hT.mono (fun b hb _ hg => by have := hG6 b hg; omega), hx⟩, hiB.mo.c0, hiB.mo.c1, hiB.mo.ints⟩ : Mo wB (fun b => G b ∨ b = bA) _ s.m) hiB.back hiB.begun
  have hA1 := hAB.same (hO1.block bA (by omega))
  have hM1 := hMB.went (.of_only hO1 (.inl hi.gc))
  have z1 := hO1.size
  generalize wB.setCell ⟨cb, 0, none⟩ (.pointer (some ⟨tb', 0, none⟩)) = wX at *
  have hO2 : Only cb wX (wX.setCell ⟨cb, 28, none⟩ (.pointer (some ⟨bA, 0, none⟩))) := Only.cell _ _ _ _
  have hi2 := hi1.turn (o' := some m0) hO2 (co_set28 hi1.at_ (.pointer (some ⟨bA, 0, none⟩))) hi1.mo (⟨bA, _, rfl, .inr rfl, hA1, hM1⟩ : Bk wX (fun b => G b ∨ b = bA) (some m0) (.pointer (some ⟨bA, 0, none⟩))) hi1.begun
  have z2 := hO2.size
  generalize wX.setCell ⟨cb, 28, none⟩ (.pointer (some ⟨bA, 0, none⟩)) = wY at *
  have hO3 : Only cb wY (wY.setCell ⟨cb, 32, none⟩ (.bool true)) := Only.cell _ _ _ _
  have hi3 := hi2.turn hO3 (co_set32 hi2.at_ true) hi2.mo hi2.back hi2.begun
  have z3 := hO3.size
  generalize wY.setCell ⟨cb, 32, none⟩ (.bool true) = wE at *
  have hT : Turned (fun b => b = cb) w wE := (((((Turned.of_below hB6 (fun b => b = cb)).then_only hOA (.inl rfl)).then_below hBB).then_only hO1 (.inl rfl)).then_only hO2 (.inl rfl)).then_only hO3 (.inl rfl)
  have hW : Went G (fun b => (G b ∨ b = bA) ∧ (Value.slice A ts.length c).ownBlock ≠ some b) w wE := ⟨hT.mono (fun b e => e ▸ hi.gc), fun b hb => hb.1.elim .inl (fun e => .inr (by omega))⟩
  have nc : (Value.slice A ts.length c).ownBlock ≠ some cb := own_ne hSp.own hi.at_ (by decide)
  have nr : (Value.slice A ts.length c).ownBlock ≠ some rb := by
    obtain ⟨_, _, _, h1, _, _⟩ := hi.rg
    exact own_ne hSp.own h1 (by decide)
  have nA : (Value.slice A ts.length c).ownBlock ≠ some bA := fun e => by have := (hSp.own.lt bA e).2; omega
  have hi4 := hi3.less (G' := fun b => (G b ∨ b = bA) ∧ (Value.slice A ts.length c).ownBlock ≠ some b) rfl (fun b hb => hb.1) ⟨.inl hi.gc, nc⟩ ⟨.inl hi.gr, nr⟩ (fun b e => by
    injection e with e
    injection e with e
    injection e with e
    subst e
    exact ⟨.inr rfl, nA⟩)
  refine ⟨_, hW, .inr ⟨hts, A, c, rfl, hc, ⟨?_, fun t ht => ct_went (hSp.each t ht) hW⟩, h.turned hW (fun b hb => by rw [z3, z2, z1]; have := hG6 b hb.1; omega) hi4⟩⟩
  have hv := (vrd_own hSp.own).keep (fun b hb hl => hT.block b hl (fun e => nc (e ▸ hb))) hT.size
  exact hv.mono fun b hb _ hg => hg.2 hb
set_option maxHeartbeats 4000000 in
set_option maxRecDepth 100000 in
theorem end_is (h : Cr n w0 cb s G w) (m0 : M) (ts : List Ct) (hbg : s.begun = some (m0, ts)) (hts : ts.length ≤ 1000) :
    Calls Try.prog 22 #[.pointer (some ⟨cb, 0, none⟩)] w (EndSays n w0 w cb s G m0 ts) := by
  have KN := Lib.hid (isNone_is h)
  obtain ⟨v, bk, gn, rb, last, hi⟩ := h.is
  have hG := fun b (hb : G b) => (h.g b hb).2
  have hgn := hi.begun
  rw [hbg] at hgn
  obtain ⟨gb, v0, kb, sl, rfl, hg, hAg, hM0, hRk, hkG, hSp⟩ := hgn
  obtain ⟨tb, rfl, _⟩ := hi.cells
  obtain ⟨t0, rfl⟩ := hM0.ptr
  obtain ⟨A, c, rfl⟩ := own_slice hSp.own
  have hc : ts.length ≤ c := by
    rcases hSp.own.2 with ⟨_, h0⟩ | ⟨_, _, _, hv, _, _, hn, _⟩
    · omega
    · injection hv with _ _ e; omega
  have KC : Hid (∀ W, Below w.heap.size w W → W.cell? ⟨cb, 29, none⟩ = some (.pointer (some ⟨gb, 0, none⟩)) ∧ W.cell? ⟨gb, 29, none⟩ = some (.slice A ts.length c)) := Lib.hid fun W hW => ⟨(co_cells (hi.move hW hG).at_).2.2.2.1, (ch_cells (hAg.same (hW.block _ hAg.lt))).2⟩
  have KM : Hid (∀ W, Below w.heap.size w W → W.rangeAt gb 0 (moL (.pointer (some ⟨t0, 0, none⟩)) m0)) := Lib.hid fun W hW => ch_moment (hAg.same (hW.block _ hAg.lt))
  have KR : Hid (Below w.heap.size w w.drew) := Lib.hid (below_drew (Below.refl _ _))
  have K6 : Hid (∀ W, Below w.heap.size w W → W.cell? ⟨cb, 29, none⟩ = some (.pointer (some ⟨gb, 0, none⟩)) ∧ W.frozen? ⟨cb, 29, none⟩ = false) := Lib.hid fun W hW => ⟨(co_cells (hi.move hW hG).at_).2.2.2.1, (hi.move hW hG).at_.frozen 29⟩
  have c29 := (KC.out w (Below.refl _ _)).1
  obtain ⟨q, hq⟩ : ∃ q, ts.length = q := ⟨_, rfl⟩
  have hq2 : q ≤ 1000 := by omega
  have HE0 : Hid (q = 0 → ∀ w6, Below w.heap.size w w6 → EndSays n w0 w cb s G m0 ts (.returned (.slice none 0 0)) (w6.setCell ⟨cb, 29, none⟩ (.pointer none))) := Lib.hid fun e w6 hB => by
    obtain rfl : ts = [] := List.eq_nil_of_length_eq_zero (by omega)
    exact cr_end0 (t0 := t0) (bA := 0) h hi hB
  have HE1 : Hid (¬ q = 0 → ∀ w6 wB tb' bA ps', Below w.heap.size w w6 → At w6 bA 53 (moL (.pointer (some ⟨t0, 0, none⟩)) m0).toArray → w.heap.size ≤ bA → Below (w6.setCell ⟨cb, 29, none⟩ (.pointer none)).heap.size (w6.setCell ⟨cb, 29, none⟩ (.pointer none)) wB → Tab wB ((w6.setCell ⟨cb, 29, none⟩ (.pointer none)).heap.size ≤ ·) (.pointer (some ⟨tb', 0, none⟩)) ps' → texts ps' = s.m.L →
      EndSays n w0 w cb s G m0 ts (.returned (.slice A q c)) (((wB.setCell ⟨cb, 0, none⟩ (.pointer (some ⟨tb', 0, none⟩))).setCell ⟨cb, 28, none⟩ (.pointer (some ⟨bA, 0, none⟩))).setCell ⟨cb, 32, none⟩ (.bool true))) := Lib.hid fun e w6 wB tb' bA ps' h1 h2 h3 h4 h5 h6 => by
    subst hq
    exact cr_end1 h hi hM0 hSp hc (fun e2 => e (by rw [e2]; rfl)) h1 h2 h3 h4 h5 h6
  have hA29 : Hid (∀ w6, Below w.heap.size w w6 → Only cb w6 (w6.setCell ⟨cb, 29, none⟩ (.pointer none)) ∧ At (w6.setCell ⟨cb, 29, none⟩ (.pointer none)) cb 57 (coL (.pointer (some ⟨tb, 0, none⟩)) s.m bk (.pointer none) (.pointer (some ⟨rb, 0, none⟩)) last s.dirty).toArray) := Lib.hid fun w6 hB => ⟨Only.cell _ _ _ _, co_set29 (hi.move hB hG).at_ _⟩
  have KCp : Hid (∀ w6, Below w.heap.size w w6 → Calls Try.prog 37 #[.pointer (some ⟨tb, 0, none⟩)] (w6.setCell ⟨cb, 29, none⟩ (.pointer none)) fun e w' => ∃ tb' ps', e = .returned (.pointer (some ⟨tb', 0, none⟩)) ∧ Hid (Tab w' ((w6.setCell ⟨cb, 29, none⟩ (.pointer none)).heap.size ≤ ·) (.pointer (some ⟨tb', 0, none⟩)) ps' ∧ texts ps' = s.m.L) ∧ Hid (Below (w6.setCell ⟨cb, 29, none⟩ (.pointer none)).heap.size (w6.setCell ⟨cb, 29, none⟩ (.pointer none)) w') ∧ At w' cb 57 (coL (.pointer (some ⟨tb, 0, none⟩)) s.m bk (.pointer none) (.pointer (some ⟨rb, 0, none⟩)) last s.dirty).toArray) := Lib.hid fun w6 hB => by
    have hO : Only cb w6 (w6.setCell ⟨cb, 29, none⟩ (.pointer none)) := Only.cell _ _ _ _
    obtain ⟨ps, ht, hp⟩ := ((hi.move hB hG).mo.went (.of_only hO hi.gc)).tab
    have hA := co_set29 (hi.move hB hG).at_ (.pointer none)
    refine (compact_is _ _ _ ps ht).mono ?_
    rintro e w' ⟨v', ps', rfl, hT, hx, _, hBB⟩
    obtain ⟨tb', rfl⟩ : ∃ tb', v' = .pointer (some ⟨tb', 0, none⟩) := by
      obtain ⟨b, _, _, _, rfl, _⟩ := hT
      exact ⟨b, rfl⟩
    exact ⟨tb', ps', rfl, ⟨hT, hx.trans hp⟩, hBB, hA.same (hBB.block cb hA.lt)⟩
  rw [hq] at KC
  clear hi hAg hM0 hRk hkG hSp h hG hg hbg hts hq hc
  go_enter Try.func22, Try.ntmps22
  go_wp2_with (first
    | (go_at_call 28; (with_reducible refine KN.out.mono ?_); rintro e w2 ⟨rfl, rfl⟩)
    | fail "NONE")
  refine wp_region_noPanic ?_
  refine wp_region_held_drew (S := fun W => Below w.heap.size w W) (by kernel_rfl) (by (try dsimp only); first | assumption | exact KR.out) (fun hHeld => ?_)
  refine held.take (i := 0) (v := .pointer (some ⟨cb, 0, none⟩)) rfl (by kernel_rfl) (by kernel_rfl) (by kernel_rfl) (fun _ _ _ h => h) (Or.inl ⟨by rfl, fun W hW => by (try dsimp only at hW); go_simp⟩) (by assumption) ?_
  (try simp only [Act.put, List.setIfInBounds_toArray, List.set_cons_zero, List.set_cons_succ])
  refine held.take (i := 1) (v := .pointer (some ⟨cb, 0, none⟩)) rfl (by kernel_rfl) (by kernel_rfl) (by kernel_rfl) (fun _ _ _ h => h) (Or.inl ⟨by rfl, fun W hW => by (try dsimp only at hW); go_simp⟩) (by assumption) ?_
  (try simp only [Act.put, List.setIfInBounds_toArray, List.set_cons_zero, List.set_cons_succ])
  refine held.take (i := 2) (v := .pointer (some ⟨cb, 29, none⟩)) rfl (by kernel_rfl) (by kernel_rfl) (by kernel_rfl) (fun _ _ _ h => h) (Or.inl ⟨by rfl, fun W hW => by (try dsimp only at hW); go_simp⟩) (by assumption) ?_
  (try simp only [Act.put, List.setIfInBounds_toArray, List.set_cons_zero, List.set_cons_succ])
  refine held.take (i := 3) (v := .pointer (some ⟨gb, 0, none⟩)) rfl (by kernel_rfl) (by kernel_rfl) (by kernel_rfl) (fun _ _ _ h => h) (Or.inl ⟨by rfl, fun W hW => by (try dsimp only at hW); have c29 := (KC.out W hW).1; go_simp⟩) (by assumption) ?_
  (try simp only [Act.put, List.setIfInBounds_toArray, List.set_cons_zero, List.set_cons_succ])
  refine held.take (i := 4) (v := .pointer (some ⟨gb, 0, none⟩)) rfl (by kernel_rfl) (by kernel_rfl) (by kernel_rfl) (fun _ _ _ h => h) (Or.inl ⟨by rfl, fun W hW => by (try dsimp only at hW); go_simp⟩) (by assumption) ?_
  (try simp only [Act.put, List.setIfInBounds_toArray, List.set_cons_zero, List.set_cons_succ])
  refine held.take (i := 5) (v := .pointer (some ⟨gb, 0, none⟩)) rfl (by kernel_rfl) (by kernel_rfl) (by kernel_rfl) (fun _ _ _ h => h) (Or.inl ⟨by rfl, fun W hW => by (try dsimp only at hW); go_simp⟩) (by assumption) ?_
  (try simp only [Act.put, List.setIfInBounds_toArray, List.set_cons_zero, List.set_cons_succ])
  refine held.take (i := 6) (v := .agg (moL (.pointer (some ⟨t0, 0, none⟩)) m0).toArray) rfl (by kernel_rfl) (by kernel_rfl) (by kernel_rfl) (fun _ _ _ h => h) (yields_loadV (by rfl) _ _ rfl undM infM gb 0 rfl _ (moL_len _ _) (fun W hW => KM.out W hW)) (by assumption) ?_
  (try simp only [Act.put, List.setIfInBounds_toArray, List.set_cons_zero, List.set_cons_succ])
  refine held.take (i := 7) (v := .pointer (some ⟨cb, 0, none⟩)) rfl (by kernel_rfl) (by kernel_rfl) (by kernel_rfl) (fun _ _ _ h => h) (Or.inl ⟨by rfl, fun W hW => by (try dsimp only at hW); go_simp⟩) (by assumption) ?_
  (try simp only [Act.put, List.setIfInBounds_toArray, List.set_cons_zero, List.set_cons_succ])
  refine held.take (i := 8) (v := .pointer (some ⟨cb, 0, none⟩)) rfl (by kernel_rfl) (by kernel_rfl) (by kernel_rfl) (fun _ _ _ h => h) (Or.inl ⟨by rfl, fun W hW => by (try dsimp only at hW); go_simp⟩) (by assumption) ?_
  (try simp only [Act.put, List.setIfInBounds_toArray, List.set_cons_zero, List.set_cons_succ])
  refine held.take (i := 9) (v := .pointer (some ⟨cb, 29, none⟩)) rfl (by kernel_rfl) (by kernel_rfl) (by kernel_rfl) (fun _ _ _ h => h) (Or.inl ⟨by rfl, fun W hW => by (try dsimp only at hW); go_simp⟩) (by assumption) ?_
  (try simp only [Act.put, List.setIfInBounds_toArray, List.set_cons_zero, List.set_cons_succ])
  refine held.take (i := 10) (v := .pointer (some ⟨gb, 0, none⟩)) rfl (by kernel_rfl) (by kernel_rfl) (by kernel_rfl) (fun _ _ _ h => h) (Or.inl ⟨by rfl, fun W hW => by (try dsimp only at hW); have c29 := (KC.out W hW).1; go_simp⟩) (by assumption) ?_
  (try simp only [Act.put, List.setIfInBounds_toArray, List.set_cons_zero, List.set_cons_succ])
  refine held.take (i := 11) (v := .pointer (some ⟨gb, 0, none⟩)) rfl (by kernel_rfl) (by kernel_rfl) (by kernel_rfl) (fun _ _ _ h => h) (Or.inl ⟨by rfl, fun W hW => by (try dsimp only at hW); go_simp⟩) (by assumption) ?_
  (try simp only [Act.put, List.setIfInBounds_toArray, List.set_cons_zero, List.set_cons_succ])
  refine held.take (i := 12) (v := .pointer (some ⟨gb, 29, none⟩)) rfl (by kernel_rfl) (by kernel_rfl) (by kernel_rfl) (fun _ _ _ h => h) (Or.inl ⟨by rfl, fun W hW => by (try dsimp only at hW); go_simp⟩) (by assumption) ?_
  (try simp only [Act.put, List.setIfInBounds_toArray, List.set_cons_zero, List.set_cons_succ])
  refine held.take (i := 13) (v := .slice A q c) rfl (by kernel_rfl) (by kernel_rfl) (by kernel_rfl) (fun _ _ _ h => h) (Or.inl ⟨by rfl, fun W hW => by (try dsimp only at hW); have g29 := (KC.out W hW).2; go_simp⟩) (by assumption) ?_
  (try simp only [Act.put, List.setIfInBounds_toArray, List.set_cons_zero, List.set_cons_succ])
  refine held.only (i := 14) (by kernel_rfl) rfl (fun K hK => ?_)
  refine step_of rfl (wp_allocV 53 rfl (moL (.pointer none) zeroM).toArray (zerM _) ?_)
  obtain ⟨w5, hw5⟩ : ∃ w5, World.alloc w.drew (.cells (moL (.pointer none) zeroM).toArray 53) = w5 := ⟨_, rfl⟩
  rw [hw5]
  have hB5 : Below w.heap.size w w5 := hw5 ▸ (KR.out.alloc KR.out.size _)
  have hA5 : At w5 (World.heap w.drew).size 53 (moL (.pointer none) zeroM).toArray := hw5 ▸ At.new _ _ _
  have hl5 : w.heap.size ≤ (World.heap w.drew).size := (Below.size hHeld)
  clear hw5
  refine hK.out _ _ (by (try dsimp only); first | assumption | exact KR.out) (fun hHeld => ?_)
  clear hK K
  (try simp only [Act.put, List.setIfInBounds_toArray, List.set_cons_zero, List.set_cons_succ])
  refine held.only (i := 15) (by kernel_rfl) rfl (fun K hK => ?_)
  refine step_of rfl (wp_storeMo (.tmp 3) (.tmp 20) rfl _ _ _ hA5 (some ⟨t0, 0, none⟩) m0 rfl rfl ?_)
  intro w6 hA6 hO6
  have hB6 := hHeld.trans (hO6.below hl5)
  refine hK.out _ _ (by (try dsimp only); first | assumption | exact KR.out) (fun hHeld => ?_)
  clear hK K
  (try simp only [Act.put, List.setIfInBounds_toArray, List.set_cons_zero, List.set_cons_succ])
  refine held.take (i := 16) (v := .slice A q c) rfl (by kernel_rfl) (by kernel_rfl) (by kernel_rfl) (fun _ _ _ h => h) (Or.inl ⟨by rfl, fun W hW => by (try dsimp only at hW); go_simp⟩) (by assumption) ?_
  (try simp only [Act.put, List.setIfInBounds_toArray, List.set_cons_zero, List.set_cons_succ])
  refine wpAnyH_done (by kernel_rfl) ?_ _
  refine NoPanic.normal ?_
  obtain ⟨d29, f29⟩ := K6.out _ hB6
  by_cases hq0 : q = 0
  · subst hq0
    have HE := Lib.hid (HE0.out rfl w6 hB6)
    go_wp2
    go_ret
    exact HE.out
  · have hqn : ((q : Int) == 0) = false := by simpa using hq0
    have HE := Lib.hid (HE1.out hq0)
    have KCp6 := Lib.hid (KCp.out w6 hB6)
    obtain ⟨a1, a2⟩ := hA29.out w6 hB6
    have e0 := (co_cells a2).1
    clear a1 a2 hq0
    go_wp2_with (first
      | (go_at_call 37; (with_reducible refine KCp6.out.mono ?_); rintro e wB ⟨tb', ps', rfl, hTB, hBB, hAB⟩; obtain ⟨b0, b1, b28, b29, b30, b31, b32⟩ := co_cells hAB; have g0 := hAB.frozen 0; have g28 := hAB.frozen 28; have g32 := hAB.frozen 32)
      | fail "NONE")
    go_ret
    exact HE.out _ _ _ _ _ hB6 hA6 hl5 hBB.out hTB.out.1 hTB.out.2
end
end Go.Proofs.Ytdbeedhedjhamaa.cor
