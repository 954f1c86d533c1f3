/- Core: (moment).lines, View. -/
import Derived.Test.YtdbeedhedjhamaaCorAsk
import Derived.Test.YtdbeedhedjhamaaSplAll
namespace Go.Proofs.Ytdbeedhedjhamaa.cor
open Go.RowKit Go.Lib pce sps mrk
set_option linter.unusedVariables false
set_option linter.unusedSimpArgs false
set_option linter.unnecessarySimpa false
set_option linter.unusedSectionVars false

theorem row_from {w W w' : World} {zs : List ByteArray} {x : Value} (h : Row W zs x w') (hB : Below w.heap.size w W) : Row w zs x w' := by
  obtain ⟨B, k, c, rfl, hk, ho, hb⟩ := h
  exact ⟨B, k, c, rfl, hk, row_lift ho hB.size, hB.trans (hb.mono hB.size)⟩
set_option maxHeartbeats 2000000 in
set_option maxRecDepth 100000 in
theorem mlines_is (w : World) (G : Nat → Prop) (v : Value) (m : M) (h : Mo w G v m) :
    Calls Try.prog 30 #[.agg (moL v m).toArray] w fun e w' => ∃ x, e = .returned x ∧ Row w m.L x w' := by
  obtain ⟨tb, rfl⟩ := h.ptr
  obtain ⟨ps, ht, hp⟩ := h.tab
  have hB0 : Below w.heap.size w (w.alloc (.cells (moL (.pointer (some ⟨tb, 0, none⟩)) m).toArray 53)) := (Below.refl _ _).alloc (Nat.le_refl _) _
  have hlen : m.L.length ≤ 2000 := h.fine.1
  have KC : Hid (∀ W, Below (w.alloc (.cells (moL (.pointer (some ⟨tb, 0, none⟩)) m).toArray 53)).heap.size (w.alloc (.cells (moL (.pointer (some ⟨tb, 0, none⟩)) m).toArray 53)) W → W.cell? ⟨w.heap.size, 0, none⟩ = some (.pointer (some ⟨tb, 0, none⟩))) :=
    Lib.hid fun W hW => (mo_cells ((At.new w _ _).same (hW.block _ (by simp)))).1
  have KL : Hid (∀ W, Below (w.alloc (.cells (moL (.pointer (some ⟨tb, 0, none⟩)) m).toArray 53)).heap.size (w.alloc (.cells (moL (.pointer (some ⟨tb, 0, none⟩)) m).toArray 53)) W → Calls Try.prog 29 #[.pointer (some ⟨tb, 0, none⟩)] W fun e w' => e = .returned (.int .i64 (m.L.length : Nat)) ∧ W = w') :=
    Lib.hid fun W hW => by
      have := len_is W _ _ ps (ht.below (hB0.trans (hW.mono hB0.size)))
      rw [hp] at this
      exact this
  have KS : Hid (∀ W, Below (w.alloc (.cells (moL (.pointer (some ⟨tb, 0, none⟩)) m).toArray 53)).heap.size (w.alloc (.cells (moL (.pointer (some ⟨tb, 0, none⟩)) m).toArray 53)) W → Calls Try.prog 32 #[.pointer (some ⟨tb, 0, none⟩), .int .i64 1, .int .i64 (m.L.length : Nat)] W fun e w' => ∃ x, e = .returned x ∧ Hid (Row w m.L x w') ∧ Below (w.alloc (.cells (moL (.pointer (some ⟨tb, 0, none⟩)) m).toArray 53)).heap.size (w.alloc (.cells (moL (.pointer (some ⟨tb, 0, none⟩)) m).toArray 53)) w') :=
    Lib.hid fun W hW => by
      have hb := hB0.trans (hW.mono hB0.size)
      refine (pce.lines_is W _ _ ps 1 (m.L.length : Nat) (by omega) (by omega) (by omega) (by omega) (ht.below hb)).mono ?_
      rintro e w' ⟨x, rfl, hr⟩
      rw [hp, Int.toNat_natCast, List.take_length] at hr
      refine ⟨x, rfl, row_from hr hb, ?_⟩
      obtain ⟨B, k, c, rfl, hk, ho, hb2⟩ := hr
      exact hW.trans (hb2.mono hW.size)
  have KB : Hid (Below (w.alloc (.cells (moL (.pointer (some ⟨tb, 0, none⟩)) m).toArray 53)).heap.size (w.alloc (.cells (moL (.pointer (some ⟨tb, 0, none⟩)) m).toArray 53)) (w.alloc (.cells (moL (.pointer (some ⟨tb, 0, none⟩)) m).toArray 53)).drew) := Lib.hid (below_drew (Below.refl _ _))
  clear ht hp h hB0 hlen
  go_enter Try.func30, Try.ntmps30
  go_wp2_with (first | (refine wpList_boxV rfl _ _ rfl _ rfl ?_) | fail "NONE")
  refine wp_region_noPanic ?_
  refine wp_region_held_drew (S := fun W => Below (w.alloc (.cells (moL (.pointer (some ⟨tb, 0, none⟩)) m).toArray 53)).heap.size (w.alloc (.cells (moL (.pointer (some ⟨tb, 0, none⟩)) m).toArray 53)) W) (by kernel_rfl) (by (try dsimp only); first | assumption | exact KB.out) (fun hHeld => ?_)
  refine held.take (i := 0) (v := .pointer (some ⟨w.heap.size, 0, none⟩)) rfl (by kernel_rfl) (by kernel_rfl) (by kernel_rfl) (fun _ _ _ h => h) (Or.inl ⟨by rfl, fun W hW => by (try dsimp only at hW); go_simp⟩) (by assumption) ?_
  (try simp only [Act.put, List.setIfInBounds_toArray, List.set_cons_zero, List.set_cons_succ])
  refine held.take (i := 1) (v := .pointer (some ⟨tb, 0, none⟩)) rfl (by kernel_rfl) (by kernel_rfl) (by kernel_rfl) (fun _ _ _ h => h) (Or.inl ⟨by rfl, fun W hW => by (try dsimp only at hW); have c0 := KC.out W hW; go_simp⟩) (by assumption) ?_
  (try simp only [Act.put, List.setIfInBounds_toArray, List.set_cons_zero, List.set_cons_succ])
  refine held.take (i := 2) (v := .pointer (some ⟨w.heap.size, 0, none⟩)) rfl (by kernel_rfl) (by kernel_rfl) (by kernel_rfl) (fun _ _ _ h => h) (Or.inl ⟨by rfl, fun W hW => by (try dsimp only at hW); go_simp⟩) (by assumption) ?_
  (try simp only [Act.put, List.setIfInBounds_toArray, List.set_cons_zero, List.set_cons_succ])
  refine held.take (i := 3) (v := .pointer (some ⟨tb, 0, none⟩)) rfl (by kernel_rfl) (by kernel_rfl) (by kernel_rfl) (fun _ _ _ h => h) (Or.inl ⟨by rfl, fun W hW => by (try dsimp only at hW); have c0 := KC.out W hW; go_simp⟩) (by assumption) ?_
  (try simp only [Act.put, List.setIfInBounds_toArray, List.set_cons_zero, List.set_cons_succ])
  refine held.only (i := 4) (by kernel_rfl) rfl (fun K hK => ?_)
  go_simp
  go_at_call 29
  (with_reducible refine (KL.out _ hHeld).mono ?_)
  rintro e w2 ⟨rfl, rfl⟩
  refine hK.out _ _ (by (try dsimp only); first | assumption | exact KB.out) (fun hHeld => ?_)
  clear hK K
  (try simp only [Act.put, List.setIfInBounds_toArray, List.set_cons_zero, List.set_cons_succ])
  refine held.only (i := 5) (by kernel_rfl) rfl (fun K hK => ?_)
  go_simp
  go_at_call 32
  (with_reducible refine (KS.out _ hHeld).mono ?_)
  rintro e w3 ⟨x, rfl, hr, hM3⟩
  refine hK.out _ _ (by (try dsimp only); first | assumption | exact KB.out) (fun hHeld => ?_)
  clear hK K
  (try simp only [Act.put, List.setIfInBounds_toArray, List.set_cons_zero, List.set_cons_succ])
  refine held.take (i := 6) (v := _) rfl (by kernel_rfl) (by kernel_rfl) (by kernel_rfl) (fun _ _ _ h => h) (Or.inl ⟨by rfl, fun _ _ => rfl⟩) (by assumption) ?_
  (try simp only [Act.put, List.setIfInBounds_toArray, List.set_cons_zero, List.set_cons_succ])
  refine wpAnyH_done (by kernel_rfl) ?_ _
  refine NoPanic.normal ?_
  go_wp2
  go_ret
  exact ⟨x, rfl, hr.out⟩
theorem row_lst {w w' : World} {zs : List ByteArray} {x : Value} (h : Row w zs x w') : ∃ A k c, x = .slice A k c ∧ Lst w' (w.heap.size ≤ ·) A k c zs ∧ Below w.heap.size w w' := by
  obtain ⟨B, k, c, rfl, hk, ho, hB⟩ := h
  subst hk
  exact ⟨B, _, c, rfl, sps.lst_own rfl ho, hB⟩
/-- What View tells: the lines in a list of their own; current line, marks, and the pattern that was used last. -/
def ViewSays (w : World) (m : M) (e : Ending) (w' : World) : Prop := ∃ A k c last, e = .returned (.agg (viL (.slice A k c) m last).toArray) ∧ Lst w' (w.heap.size ≤ ·) A k c m.L ∧ Below w.heap.size w w'
section
variable {n cb : Nat} {w0 w : World} {G : Nat → Prop} {s : S}
theorem step_storeV {ops : Array Oper} {o : Oper} {a : Act} {K : Act → World → Prop} {Q : Exit → Act → World → Prop} {E : Prop} (hgd : o.guard = none) (ty : TypeId) (x y : Operand) (ho : o.op = .store ty x y) (b : Nat) (t : TypeId) (l1 m l2 : List Value) (h : At w b t (l1 ++ m ++ l2).toArray) (m' : List Value) (hl : m'.length = m.length) (q : Nat) (hb : q = l1.length)
    (hx : a.eval x = .pointer (some ⟨b, q, none⟩)) (hy : a.eval y = .agg m'.toArray) (hi : (Try.prog.info? ty).map (·.size) = some m'.length) (h1 : ∀ v ∈ m', v.oneCell' = true)
    (hk : ∀ w', At w' b t (l1 ++ m' ++ l2).toArray → Only b w w' → K (a.put o.dst undef) w') :
    if Region.wanted o (yielded ops a.tmps) = true then Oper.wp Try.prog o a w K Q else E := by
  have hw : Region.wanted o (yielded ops a.tmps) = true := by simp [Region.wanted, hgd]
  rw [if_pos hw]
  exact wp_storeM ty x y ho b t l1 m l2 h m' hl q hb hx hy hi h1 hk
def StV (w W : World) : Prop := Below w.heap.size w W ∧ w.heap.size < W.heap.size ∧ ∃ l m last, At W w.heap.size 38 (viL l m last).toArray
theorem StV.next {W W' : World} (h : StV w W) (hB : Below W.heap.size W W') : StV w W' := by
  obtain ⟨h1, h2, l, m, last, h3⟩ := h
  exact ⟨h1.trans (hB.mono h1.size), Nat.lt_of_lt_of_le h2 hB.size, l, m, last, h3.same (hB.block _ h2)⟩
theorem StV.only {W W' : World} {l : Value} {m : M} {last : ByteArray} (h : StV w W) (hO : Only w.heap.size W W') (hA : At W' w.heap.size 38 (viL l m last).toArray) : StV w W' :=
  ⟨h.1.trans (hO.below (Nat.le_refl _)), by rw [hO.size]; exact h.2.1, l, m, last, hA⟩
theorem StV.start (w : World) (l : Value) (m : M) (last : ByteArray) : StV w (w.alloc (.cells (viL l m last).toArray 38)) := ⟨(Below.refl _ _).alloc (Nat.le_refl _) _, by simp, l, m, last, At.new _ _ _⟩
theorem StV.drew {W : World} (h : StV w W) : StV w W.drew := ⟨below_drew h.1, h.2.1, h.2.2⟩
theorem step_storeView {ops : Array Oper} {o : Oper} {a : Act} {K : Act → World → Prop} {Q : Exit → Act → World → Prop} {E : Prop} {W : World} (hgd : o.guard = none) (x y : Operand) (ho : o.op = .store 38 x y) (b : Nat) (h : ∃ l m last, At W b 38 (viL l m last).toArray) (A : Option Addr) (k c : Nat) (m : M) (last : ByteArray)
    (hx : a.eval x = .pointer (some ⟨b, 0, none⟩)) (hy : a.eval y = .agg (viL (.slice A k c) m last).toArray)
    (hk : ∀ w', At w' b 38 (viL (.slice A k c) m last).toArray → Only b W w' → K (a.put o.dst undef) w') :
    if Region.wanted o (yielded ops a.tmps) = true then Oper.wp Try.prog o a W K Q else E := by
  obtain ⟨l0, m0, last0, h⟩ := h
  refine step_storeV hgd 38 x y ho b _ [] (viL l0 m0 last0) [] (by rw [List.nil_append, List.append_nil]; exact h) (viL (.slice A k c) m last) (by rw [vi_len, vi_len]) 0 rfl hx hy (by rw [vi_len]; exact infV) (vi_one rfl) ?_
  intro w4 hA4 hO4
  rw [List.nil_append, List.append_nil] at hA4
  exact hk w4 hA4 hO4
set_option maxHeartbeats 4000000 in
set_option maxRecDepth 100000 in
theorem view_is (h : Cr n w0 cb s G w) : Calls Try.prog 8 #[.pointer (some ⟨cb, 0, none⟩)] w (ViewSays w s.m) := by
  obtain ⟨w1, hw1⟩ : ∃ w1, w.alloc (.cells (viL (.slice none 0 0) zeroM ⟨#[]⟩).toArray 38) = w1 := ⟨_, rfl⟩
  have hS1 : StV w w1 := hw1 ▸ StV.start w _ _ _
  have KN := Lib.hid (isNone_is (h.move hS1.1))
  obtain ⟨v, bk, gn, rb, last, hi⟩ := h.is
  have hG := fun b (hb : G b) => (h.g b hb).2
  obtain ⟨tb, rfl, _⟩ := hi.cells
  have KC : Hid (∀ W, StV w W → W.cell? ⟨cb, 1, none⟩ = some (.int .i64 s.m.c) ∧ W.cell? ⟨cb, 31, none⟩ = some (.string last)) := Lib.hid fun W hW => by
    obtain ⟨_, c1, _, _, _, c31, _⟩ := co_cells (hi.move hW.1 hG).at_
    exact ⟨c1, c31⟩
  have KM : Hid (∀ W, StV w W → W.rangeAt cb 0 (moL (.pointer (some ⟨tb, 0, none⟩)) s.m)) := Lib.hid fun W hW => co_moment (hi.move hW.1 hG).at_
  have KA : Hid (∀ W, StV w W → W.rangeAt cb 2 (arrL s.m.f)) := Lib.hid fun W hW => co_marks (hi.move hW.1 hG).at_
  have KS : Hid (∀ W, StV w W → Calls Try.prog 30 #[.agg (moL (.pointer (some ⟨tb, 0, none⟩)) s.m).toArray] W fun e w' => ∃ A k c, e = .returned (.slice A k c) ∧ Hid (Lst w' (w.heap.size < ·) A k c s.m.L) ∧ StV w w') := Lib.hid fun W hW => by
    refine (mlines_is W G _ s.m ((hi.move hW.1 hG).mo)).mono ?_
    rintro e w' ⟨x, rfl, hr⟩
    obtain ⟨A, k, c, rfl, hL, hB⟩ := row_lst hr
    exact ⟨A, k, c, rfl, hL.mono (fun b hb _ => Nat.lt_of_lt_of_le hW.2.1 hb), hW.next hB⟩
  have KB : Hid (StV w w1.drew) := Lib.hid hS1.drew
  clear hi h hS1 hG
  go_enter Try.func8, Try.ntmps8
  go_wp2_with (first
    | (refine wpList_allocV rfl _ rfl _ (zerV _) ?_; rw [hw1]; clear hw1)
    | (go_at_call 28; (with_reducible refine KN.out.mono ?_); rintro e w2 ⟨rfl, rfl⟩)
    | fail "NONE")
  refine wp_region_noPanic ?_
  refine wp_region_held_drew (S := fun W => StV w W) (by kernel_rfl) (by (try dsimp only); first | assumption | exact KB.out) (fun hHeld => ?_)
  refine held.take (i := 0) (v := .pointer (some ⟨cb, 0, none⟩)) rfl (by kernel_rfl) (by kernel_rfl) (by kernel_rfl) (fun _ _ _ h => h) (Or.inl ⟨by rfl, fun W hW => by (try dsimp only at hW); go_simp⟩) (by assumption) ?_
  (try simp only [Act.put, List.setIfInBounds_toArray, List.set_cons_zero, List.set_cons_succ])
  refine held.take (i := 1) (v := .pointer (some ⟨cb, 0, none⟩)) rfl (by kernel_rfl) (by kernel_rfl) (by kernel_rfl) (fun _ _ _ h => h) (Or.inl ⟨by rfl, fun W hW => by (try dsimp only at hW); go_simp⟩) (by assumption) ?_
  (try simp only [Act.put, List.setIfInBounds_toArray, List.set_cons_zero, List.set_cons_succ])
  refine held.take (i := 2) (v := .pointer (some ⟨cb, 0, none⟩)) rfl (by kernel_rfl) (by kernel_rfl) (by kernel_rfl) (fun _ _ _ h => h) (Or.inl ⟨by rfl, fun W hW => by (try dsimp only at hW); go_simp⟩) (by assumption) ?_
  (try simp only [Act.put, List.setIfInBounds_toArray, List.set_cons_zero, List.set_cons_succ])
  refine held.take (i := 3) (v := .agg (moL (.pointer (some ⟨tb, 0, none⟩)) s.m).toArray) rfl (by kernel_rfl) (by kernel_rfl) (by kernel_rfl) (fun _ _ _ h => h) (yields_loadV (by rfl) _ _ rfl undM infM cb 0 rfl _ (moL_len _ _) (fun W hW => KM.out W hW)) (by assumption) ?_
  (try simp only [Act.put, List.setIfInBounds_toArray, List.set_cons_zero, List.set_cons_succ])
  refine held.take (i := 5) (v := .pointer (some ⟨cb, 0, none⟩)) rfl (by kernel_rfl) (by kernel_rfl) (by kernel_rfl) (fun _ _ _ h => h) (Or.inl ⟨by rfl, fun W hW => by (try dsimp only at hW); go_simp⟩) (by assumption) ?_
  (try simp only [Act.put, List.setIfInBounds_toArray, List.set_cons_zero, List.set_cons_succ])
  refine held.take (i := 6) (v := .pointer (some ⟨cb, 0, none⟩)) rfl (by kernel_rfl) (by kernel_rfl) (by kernel_rfl) (fun _ _ _ h => h) (Or.inl ⟨by rfl, fun W hW => by (try dsimp only at hW); go_simp⟩) (by assumption) ?_
  (try simp only [Act.put, List.setIfInBounds_toArray, List.set_cons_zero, List.set_cons_succ])
  refine held.take (i := 7) (v := .pointer (some ⟨cb, 0, none⟩)) rfl (by kernel_rfl) (by kernel_rfl) (by kernel_rfl) (fun _ _ _ h => h) (Or.inl ⟨by rfl, fun W hW => by (try dsimp only at hW); go_simp⟩) (by assumption) ?_
  (try simp only [Act.put, List.setIfInBounds_toArray, List.set_cons_zero, List.set_cons_succ])
  refine held.take (i := 8) (v := .pointer (some ⟨cb, 1, none⟩)) rfl (by kernel_rfl) (by kernel_rfl) (by kernel_rfl) (fun _ _ _ h => h) (Or.inl ⟨by rfl, fun W hW => by (try dsimp only at hW); go_simp⟩) (by assumption) ?_
  (try simp only [Act.put, List.setIfInBounds_toArray, List.set_cons_zero, List.set_cons_succ])
  refine held.take (i := 9) (v := .int .i64 s.m.c) rfl (by kernel_rfl) (by kernel_rfl) (by kernel_rfl) (fun _ _ _ h => h) (Or.inl ⟨by rfl, fun W hW => by (try dsimp only at hW); have c1 := (KC.out W hW).1; go_simp⟩) (by assumption) ?_
  (try simp only [Act.put, List.setIfInBounds_toArray, List.set_cons_zero, List.set_cons_succ])
  refine held.take (i := 10) (v := .pointer (some ⟨cb, 0, none⟩)) rfl (by kernel_rfl) (by kernel_rfl) (by kernel_rfl) (fun _ _ _ h => h) (Or.inl ⟨by rfl, fun W hW => by (try dsimp only at hW); go_simp⟩) (by assumption) ?_
  (try simp only [Act.put, List.setIfInBounds_toArray, List.set_cons_zero, List.set_cons_succ])
  refine held.take (i := 11) (v := .pointer (some ⟨cb, 0, none⟩)) rfl (by kernel_rfl) (by kernel_rfl) (by kernel_rfl) (fun _ _ _ h => h) (Or.inl ⟨by rfl, fun W hW => by (try dsimp only at hW); go_simp⟩) (by assumption) ?_
  (try simp only [Act.put, List.setIfInBounds_toArray, List.set_cons_zero, List.set_cons_succ])
  refine held.take (i := 12) (v := .pointer (some ⟨cb, 0, none⟩)) rfl (by kernel_rfl) (by kernel_rfl) (by kernel_rfl) (fun _ _ _ h => h) (Or.inl ⟨by rfl, fun W hW => by (try dsimp only at hW); go_simp⟩) (by assumption) ?_
  (try simp only [Act.put, List.setIfInBounds_toArray, List.set_cons_zero, List.set_cons_succ])
  refine held.take (i := 13) (v := .pointer (some ⟨cb, 2, none⟩)) rfl (by kernel_rfl) (by kernel_rfl) (by kernel_rfl) (fun _ _ _ h => h) (Or.inl ⟨by rfl, fun W hW => by (try dsimp only at hW); go_simp⟩) (by assumption) ?_
  (try simp only [Act.put, List.setIfInBounds_toArray, List.set_cons_zero, List.set_cons_succ])
  refine held.take (i := 14) (v := .agg (arr s.m.f)) rfl (by kernel_rfl) (by kernel_rfl) (by kernel_rfl) (fun _ _ _ h => h) (yields_loadV (by rfl) _ _ rfl undA mrk.inf cb 2 rfl (arrL s.m.f) (arrL_len _) (fun W hW => KA.out W hW)) (by assumption) ?_
  (try simp only [Act.put, List.setIfInBounds_toArray, List.set_cons_zero, List.set_cons_succ])
  refine held.take (i := 15) (v := .pointer (some ⟨cb, 0, none⟩)) rfl (by kernel_rfl) (by kernel_rfl) (by kernel_rfl) (fun _ _ _ h => h) (Or.inl ⟨by rfl, fun W hW => by (try dsimp only at hW); go_simp⟩) (by assumption) ?_
  (try simp only [Act.put, List.setIfInBounds_toArray, List.set_cons_zero, List.set_cons_succ])
  refine held.take (i := 16) (v := .pointer (some ⟨cb, 0, none⟩)) rfl (by kernel_rfl) (by kernel_rfl) (by kernel_rfl) (fun _ _ _ h => h) (Or.inl ⟨by rfl, fun W hW => by (try dsimp only at hW); go_simp⟩) (by assumption) ?_
  (try simp only [Act.put, List.setIfInBounds_toArray, List.set_cons_zero, List.set_cons_succ])
  refine held.take (i := 17) (v := .pointer (some ⟨cb, 31, none⟩)) rfl (by kernel_rfl) (by kernel_rfl) (by kernel_rfl) (fun _ _ _ h => h) (Or.inl ⟨by rfl, fun W hW => by (try dsimp only at hW); go_simp⟩) (by assumption) ?_
  (try simp only [Act.put, List.setIfInBounds_toArray, List.set_cons_zero, List.set_cons_succ])
  refine held.take (i := 18) (v := .string last) rfl (by kernel_rfl) (by kernel_rfl) (by kernel_rfl) (fun _ _ _ h => h) (Or.inl ⟨by rfl, fun W hW => by (try dsimp only at hW); have c31 := (KC.out W hW).2; go_simp⟩) (by assumption) ?_
  (try simp only [Act.put, List.setIfInBounds_toArray, List.set_cons_zero, List.set_cons_succ])
  refine held.only (i := 4) (by kernel_rfl) rfl (fun K hK => ?_)
  go_simp
  go_at_call 30
  (with_reducible refine (KS.out _ hHeld).mono ?_)
  rintro e w3 ⟨A, k, c, rfl, hL3, hM3⟩
  refine hK.out _ _ (by (try dsimp only); first | assumption | exact KB.out) (fun hHeld => ?_)
  clear hK K
  (try simp only [Act.put, List.setIfInBounds_toArray, List.set_cons_zero, List.set_cons_succ])
  refine held.take (i := 19) (v := .agg (viL (.slice A k c) s.m last).toArray) rfl (by kernel_rfl) (by kernel_rfl) (by kernel_rfl) (fun _ _ _ h => h) (yields_buildV (by rfl) _ _ rfl #[(0, .slice A k c), (1, .int .i64 s.m.c), (2, .agg (arr s.m.f)), (3, .string last)] (by simp [Act.eval]) _ (bldV A k c s.m last)) (by assumption) ?_
  (try simp only [Act.put, List.setIfInBounds_toArray, List.set_cons_zero, List.set_cons_succ])
  refine held.only (i := 20) (by kernel_rfl) rfl (fun K hK => ?_)
  refine step_storeView rfl (.tmp 2) (.tmp 25) rfl w.heap.size hHeld.2.2 A k c s.m last rfl rfl ?_
  intro w4 hA4 hO4
  have hM4 := StV.only hHeld hO4 hA4
  refine hK.out _ _ (by (try dsimp only); first | assumption | exact KB.out) (fun hHeld => ?_)
  clear hK K
  (try simp only [Act.put, List.setIfInBounds_toArray, List.set_cons_zero, List.set_cons_succ])
  refine wpAnyH_done (by kernel_rfl) ?_ _
  refine NoPanic.normal ?_
  go_wp2
  refine bodyPost_ret (results_V1 38 undV infV Try.results8 (by rfl) vi_len (At.whole hA4)) (by rfl) ?_
  exact ⟨A, k, c, last, rfl, hL3.out.keep (fun b hb _ => hO4.block b (by omega)) (by rw [hO4.size]; exact Nat.le_refl _) |>.mono (fun b hb _ => Nat.le_of_lt hb), hM4.1⟩
end
end Go.Proofs.Ytdbeedhedjhamaa.cor
