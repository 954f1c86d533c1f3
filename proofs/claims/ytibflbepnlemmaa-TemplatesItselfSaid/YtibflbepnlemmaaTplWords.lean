/- Templates: words on memory: pieces behind an address; ten pairs of numbers by value. -/
import Derived.Test.YtibflbepnlemmaaTplAny
import Derived.Deep.MidRow
import Derived.OwnWalk
import Derived.Laws.NewBlocks
import Derived.Laws.AppendOwn
namespace Go.Proofs.Ytibflbepnlemmaa.tpl
open Go.RowKit Go.Lib
set_option linter.unusedVariables false
set_option linter.unusedSimpArgs false
set_option linter.unnecessarySimpa false
set_option linter.unusedSectionVars false

/-- Block g is just the cells cs of type t, none of them frozen. -/
def At (w : World) (g : Nat) (t : TypeId) (cs : Array Value) : Prop := w.heap[g]? = some (.cells cs t (0, 0))
section
variable {w w' : World} {g g' : Nat} {t t' : TypeId} {cs cs' : Array Value}
theorem At.lt (h : At w g t cs) : g < w.heap.size := (Array.getElem?_eq_some_iff.1 h).1
theorem At.cell (h : At w g t cs) (i : Nat) : w.cell? ⟨g, i, none⟩ = cs[i]? := cell_of_row w g i cs t (0, 0) h
theorem At.frozen (h : At w g t cs) (i : Nat) : w.frozen? ⟨g, i, none⟩ = false := by unfold At at h; simp [World.frozen?, h]
theorem At.new (w : World) (t : TypeId) (cs : Array Value) : At (w.alloc (.cells cs t)) w.heap.size t cs := heap_alloc_new w _
theorem At.alloc (h : At w g t cs) (o : Obj) : At (w.alloc o) g t cs := (Below.heap_alloc w o g h.lt).trans h
theorem At.same (h : At w g t cs) (hb : w'.heap[g]? = w.heap[g]?) : At w' g t cs := hb.trans h
theorem At.keep {n : Nat} (h : At w g t cs) (hB : Below n w w') (hn : g < n) : At w' g t cs := (hB.block g hn).trans h
theorem At.set (h : At w g t cs) (i : Nat) (u : Value) : At (w.setCell ⟨g, i, none⟩ u) g t (cs.setIfInBounds i u) := by
  unfold At at h ⊢
  simp [World.setCell, Array.getElem?_modify, h]
theorem At.far (h : At w g t cs) {p : Addr} (hp : g ≠ p.block) (u : Value) : At (w.setCell p u) g t cs := (Below.heap_setCell w p u g hp).trans h
end

/-! ## Ten pairs of numbers -/
def spL (f : Nat → Int) : List Value := (List.range 20).map fun i => Value.int .i64 (f i)
def spA (f : Nat → Int) : Array Value := (spL f).toArray
theorem spL_len (f : Nat → Int) : (spL f).length = 20 := by simp [spL]
theorem spA_size (f : Nat → Int) : (spA f).size = 20 := by simp [spA, spL]
theorem spL_get (f : Nat → Int) (i : Nat) (h : i < 20) : (spL f)[i]? = some (.int .i64 (f i)) := by simp [spL, h]
theorem spA_get (f : Nat → Int) (i : Nat) (h : i < 20) : (spA f)[i]? = some (.int .i64 (f i)) := by simp [spA, spL, h]
def Sp (w : World) (b : Nat) (f : Nat → Int) : Prop := At w b 23 (spA f)
section
variable {w w' : World} {b : Nat} {f g : Nat → Int}
theorem Sp.cell (h : Sp w b f) (i : Nat) (hi : i < 20) : w.cell? ⟨b, i, none⟩ = some (.int .i64 (f i)) := (At.cell h i).trans (spA_get f i hi)
theorem Sp.range (h : Sp w b f) : w.rangeAt b 0 (spL f) := fun j v hv => by
  have hj : j < 20 := by have := (List.getElem?_eq_some_iff.1 hv).1; rwa [spL_len] at this
  rw [Nat.zero_add, h.cell j hj, ← hv, spL_get f j hj]
theorem Sp.pair (h : Sp w b f) (k : Nat) (hk : k < 10) : w.rangeAt b (2 * k) [.int .i64 (f (2 * k)), .int .i64 (f (2 * k + 1))] := fun j v hv => by
  match j, hv with
  | 0, hv => have : v = .int .i64 (f (2 * k)) := by simpa using hv.symm
             rw [this, Nat.add_zero]; exact h.cell _ (by omega)
  | 1, hv => have : v = .int .i64 (f (2 * k + 1)) := by simpa using hv.symm
             rw [this]; exact h.cell _ (by omega)
  | j + 2, hv => simp at hv
end
theorem und23 : Try.prog.underlying 23 = some (.array 10 22) := by kernel_rfl
theorem und22 : Try.prog.underlying 22 = some (.array 2 3) := by kernel_rfl
theorem inf23 : (Try.prog.info? 23).map (·.size) = some 20 := by kernel_rfl
theorem inf22 : (Try.prog.info? 22).map (·.size) = some 2 := by kernel_rfl
theorem load23 {w : World} {b : Nat} {f : Nat → Int} (h : Sp w b f) : (Instr.loadAt 23 (.pointer (some ⟨b, 0, none⟩))).run Try.prog w = .ok (.agg (spA f)) w :=
  run_loadAt_mid w b 0 23 (spL f) _ h.range und23 rfl (by rw [spL_len]; exact inf23)
theorem load22 {w : World} {b : Nat} {f : Nat → Int} (h : Sp w b f) (k : Nat) (hk : k < 10) : (Instr.loadAt 22 (.pointer (some ⟨b, 2 * k, none⟩))).run Try.prog w = .ok (.agg #[.int .i64 (f (2 * k)), .int .i64 (f (2 * k + 1))]) w :=
  run_loadAt_mid w b (2 * k) 22 [.int .i64 (f (2 * k)), .int .i64 (f (2 * k + 1))] _ (h.pair k hk) und22 rfl inf22
theorem box23 (w : World) (f : Nat → Int) : (Instr.box 23 (.agg (spA f))).run Try.prog w = .ok (.pointer (some ⟨w.heap.size, 0, none⟩)) (w.alloc (.cells (spA f) 23)) := rfl
theorem sp_new (w : World) (f : Nat → Int) : Sp (w.alloc (.cells (spA f) 23)) w.heap.size f := At.new w _ _
def no0 : Nat → Int := fun _ => 0
theorem zer23 (w : World) : (zeroValue 23).run Try.prog w = .ok (.agg (spA no0)) w := by kernel_rfl
theorem alloc23 (w : World) (old : Value) : (Instr.alloc 23 true old).run Try.prog w = .ok (.pointer (some ⟨w.heap.size, 0, none⟩)) (w.alloc (.cells (spA no0) 23)) := by
  simp only [Instr.alloc, Sem.run_bind, zer23, Result.andThen_ok]
  rfl
/-- One pair is another one. -/
def upd2 (f : Nat → Int) (k : Nat) (x y : Int) : Nat → Int := fun i => if i = 2 * k then x else if i = 2 * k + 1 then y else f i
theorem spA_set (f : Nat → Int) (i : Nat) (x : Int) (h : i < 20) : (spA f).setIfInBounds i (.int .i64 x) = spA fun j => if j = i then x else f j := by
  apply Array.ext_getElem?
  intro j
  rw [Array.getElem?_setIfInBounds]
  by_cases hj : j < 20
  · rw [spA_get (fun j => if j = i then x else f j) j hj]
    by_cases hij : i = j
    · subst hij
      rw [if_pos rfl, if_pos (by rw [spA_size]; exact h), if_pos rfl]
    · rw [if_neg hij, spA_get f j hj, if_neg (Ne.symm hij)]
  · have e1 : ∀ g : Nat → Int, (spA g)[j]? = none := fun g => by rw [Array.getElem?_eq_none]; rw [spA_size]; omega
    rw [e1, e1]
    split
    · rename_i hij; subst hij; rw [if_neg (by rw [spA_size]; omega)]
    · rfl
/-- Behind a store into a pair: the pairs, and what has not turned. -/
theorem store_pair {w : World} {b n : Nat} {f : Nat → Int} (h : Sp w b f) (k : Nat) (hk : k < 10) (x y : Int) (hn : n ≤ b) (w' : World) (hw : w.setCells b (2 * k) [.int .i64 x, .int .i64 y] = w') :
    Sp w' b (upd2 f k x y) ∧ Below n w w' := by
  have e : ((spA f).setIfInBounds (2 * k) (.int .i64 x)).setIfInBounds (2 * k + 1) (.int .i64 y) = spA (upd2 f k x y) := by
    rw [spA_set f _ x (by omega), spA_set _ _ y (by omega)]
    congr 1
    funext j
    unfold upd2
    by_cases h1 : j = 2 * k
    · subst h1; simp
    · simp [h1]
  have hw2 : (w.setCell ⟨b, 2 * k, none⟩ (.int .i64 x)).setCell ⟨b, 2 * k + 1, none⟩ (.int .i64 y) = w' := hw
  rw [← hw2]
  refine ⟨?_, ?_⟩
  · unfold Sp
    rw [← e]
    exact (At.set h (2 * k) (.int .i64 x)).set (2 * k + 1) (.int .i64 y)
  · exact ((Below.refl _ _).setCell (p := ⟨b, 2 * k, none⟩) hn _).trans ((Below.refl _ _).setCell (p := ⟨b, 2 * k + 1, none⟩) hn _)
theorem store22 {w : World} {b : Nat} {f : Nat → Int} (h : Sp w b f) (k : Nat) (hk : k < 10) (x y : Int) : (Instr.storeAt 22 (.pointer (some ⟨b, 2 * k, none⟩)) (.agg #[.int .i64 x, .int .i64 y])).run Try.prog w = .ok () (w.setCells b (2 * k) [.int .i64 x, .int .i64 y]) :=
  run_storeAt_mid w b (2 * k) 22 #[.int .i64 x, .int .i64 y] (fun j hj => by
    have hj2 : j < 2 := hj
    exact ⟨by rw [h.cell _ (by omega)]; rfl, At.frozen h _⟩) inf22 (by simp [Value.oneCell'])
theorem addr23 (b k : Nat) (ki : Int) (hki : ki = k) (hk : k < 10) (W : World) : (Instr.indexAt 23 (.pointer (some ⟨b, 0, none⟩)) (.int .i64 ki)).run Try.prog W = .ok (.pointer (some ⟨b, 2 * k, none⟩)) W := by
  subst hki
  have hs : ∀ W, (sizeOf 22).run Try.prog W = .ok 2 W := fun W => by kernel_rfl
  have h1 : (0 : Int) ≤ (k : Int) ∧ (k : Int) < ((10 : Nat) : Int) := by omega
  have h2 : (0 : Int) ≤ (k : Int) ∧ (k : Int) < 10 := by omega
  simp [Instr.indexAt, asIntOf, Sem.run_bind, run_underlying und23, Instr.sureAddr, hs, h2, Result.andThen, Go.WideShapes.add_plain, Nat.mul_comm]
  intro h
  omega
/-! ## Results that stand in a cell -/
theorem results_sp {fn : Func} {p : Tmp} (h : fn.results = #[.cell p 23]) {tmps : Array Value} {b : Nat} (hp : tmps.getD p undef = .pointer (some ⟨b, 0, none⟩)) {w : World} {f : Nat → Int} (hA : Sp w b f) :
    (results fn tmps).run Try.prog w = .ok (.agg (spA f)) w := by
  have hl := run_loadVar_mid (P := Try.prog) w b 0 23 (spL f) _ hA.range und23 rfl (by rw [spL_len]; exact inf23)
  simp only [results, h]
  rw [Array.getD_eq_getD_getElem?] at hp
  simp [Sem.run_bind, Result.andThen, hp, asAddr, hl, spA]

section
variable {ops : Array Oper} {rest : List Oper} {op : Oper} {a : Act} {w : World} {Q : Exit → Act → World → Prop}
theorem wpList_loadSp (hgd : op.guard = none) (x : Operand) (ho : op.op = .load 23 x) (b : Nat) (hx : a.eval x = .pointer (some ⟨b, 0, none⟩)) (f : Nat → Int) (h : Sp w b f)
    (hk : wpList Try.prog ops Q rest (a.put op.dst (.agg (spA f))) w) : wpList Try.prog ops Q (op :: rest) a w :=
  wpList_plain hgd fun _ hK => by
    unfold Oper.wp execOp
    simp only [ho, hx, Sem.run_bind, Sem.run_pure, Result.andThen_ok, load23 h]
    exact hK _ _ hk
theorem wpList_loadSpM (hw : Region.wanted op (yielded ops a.tmps) = true) (x : Operand) (ho : op.op = .load 23 x) (b : Nat) (hx : a.eval x = .pointer (some ⟨b, 0, none⟩)) (f : Nat → Int) (h : Sp w b f)
    (hk : wpList Try.prog ops Q rest (a.put op.dst (.agg (spA f))) w) : wpList Try.prog ops Q (op :: rest) a w := by
  refine wpList_step fun K hK => ?_
  simp only [hw, if_true]
  unfold Oper.wp execOp
  simp only [ho, hx, Sem.run_bind, Sem.run_pure, Result.andThen_ok, load23 h]
  exact hK _ _ hk
theorem wpList_boxSp (hgd : op.guard = none) (x : Operand) (ho : op.op = .box 23 x) (f : Nat → Int) (hx : a.eval x = .agg (spA f))
    (hk : ∀ w', w'.heap.size = w.heap.size + 1 → Sp w' w.heap.size f → Below w.heap.size w w' → wpList Try.prog ops Q rest (a.put op.dst (.pointer (some ⟨w.heap.size, 0, none⟩))) w') : wpList Try.prog ops Q (op :: rest) a w :=
  wpList_plain hgd fun _ hK => by
    unfold Oper.wp execOp
    simp only [ho, hx, Sem.run_bind, Sem.run_pure, Result.andThen_ok, box23]
    exact hK _ _ (hk _ (by simp) (sp_new w f) ((Below.refl _ _).alloc (Nat.le_refl _) _))
theorem wpList_allocSp (hgd : op.guard = none) (ho : op.op = .alloc 23)
    (hk : ∀ w', w'.heap.size = w.heap.size + 1 → Sp w' w.heap.size no0 → Below w.heap.size w w' → wpList Try.prog ops Q rest (a.put op.dst (.pointer (some ⟨w.heap.size, 0, none⟩))) w') : wpList Try.prog ops Q (op :: rest) a w :=
  wpList_plain hgd fun _ hK => by
    unfold Oper.wp execOp
    simp only [ho, Sem.run_bind, Sem.run_pure, Result.andThen_ok, alloc23]
    exact hK _ _ (hk _ (by simp) (sp_new w no0) ((Below.refl _ _).alloc (Nat.le_refl _) _))
/-- A pair is laid into ten. -/
theorem wpList_storeP (hgd : op.guard = none) (x y : Operand) (ho : op.op = .store 22 x y) (b k : Nat) (u v : Int) (hx : a.eval x = .pointer (some ⟨b, 2 * k, none⟩)) (hy : a.eval y = .agg #[.int .i64 u, .int .i64 v]) (f : Nat → Int) (h : Sp w b f) (hk10 : k < 10)
    (hk : ∀ w', w'.heap.size = w.heap.size → Sp w' b (upd2 f k u v) → Below b w w' → wpList Try.prog ops Q rest (a.put op.dst undef) w') : wpList Try.prog ops Q (op :: rest) a w :=
  wpList_plain hgd fun _ hK => by
    unfold Oper.wp execOp
    simp only [ho, hx, hy, Sem.run_bind, Sem.run_pure, Result.andThen_ok, store22 h k hk10 u v]
    obtain ⟨h1, h2⟩ := store_pair h k hk10 u v (Nat.le_refl b) _ rfl
    exact hK _ _ (hk _ (by simp [World.setCells, World.setCell]) h1 h2)
def writeAll (c : Array Value) : Nat → List Value → Array Value
  | _, [] => c
  | o, v :: vs => writeAll (c.setIfInBounds o v) (o + 1) vs
theorem writeAll_size : ∀ (vs : List Value) (o : Nat) (c : Array Value), (writeAll c o vs).size = c.size
  | [], _, _ => rfl
  | v :: vs, o, c => by rw [writeAll, writeAll_size vs]; simp
theorem writeAll_get : ∀ (vs : List Value) (o : Nat) (c : Array Value) (j : Nat), o + vs.length ≤ c.size → (writeAll c o vs)[j]? = if o ≤ j ∧ j < o + vs.length then vs[j - o]? else c[j]?
  | [], o, c, j, h => by
    rw [if_neg (by simp)]
    rfl
  | v :: vs, o, c, j, h => by
    rw [writeAll, writeAll_get vs (o + 1) _ j (by simp at h ⊢; omega)]
    rw [List.length_cons] at h ⊢
    by_cases hj : o = j
    · subst hj
      rw [if_neg (by omega), if_pos (by omega), Array.getElem?_setIfInBounds, if_pos rfl, if_pos (by omega)]
      simp
    · by_cases h2 : o + 1 ≤ j ∧ j < o + 1 + vs.length
      · rw [if_pos h2, if_pos (by omega)]
        obtain ⟨k, rfl⟩ : ∃ k, j = o + 1 + k := ⟨j - (o + 1), by omega⟩
        have e1 : o + 1 + k - (o + 1) = k := by omega
        have e2 : o + 1 + k - o = k + 1 := by omega
        rw [e1, e2, List.getElem?_cons_succ]
      · rw [if_neg h2, if_neg (by omega), Array.getElem?_setIfInBounds, if_neg hj]
theorem setCells_block (t : TypeId) : ∀ (vs : List Value) (o : Nat) (w : World) (b : Nat) (c : Array Value), w.heap[b]? = some (.cells c t) → w.setCells b o vs = { w with heap := w.heap.setIfInBounds b (.cells (writeAll c o vs) t) }
  | [], o, w, b, c, h => by
    have hb := (Array.getElem?_eq_some_iff.1 h)
    show w = _
    have : w.heap.setIfInBounds b (.cells c t) = w.heap := by
      apply Array.ext_getElem?
      intro k
      rw [Array.getElem?_setIfInBounds]
      by_cases hk : b = k
      · subst hk; simp [hb.1, ← h]
      · simp [hk]
    rw [writeAll, this]
  | v :: vs, o, w, b, c, h => by
    have hb := (Array.getElem?_eq_some_iff.1 h).1
    have e : w.setCell ⟨b, o, none⟩ v = { w with heap := w.heap.setIfInBounds b (.cells (c.setIfInBounds o v) t) } := by
      unfold World.setCell
      congr 1
      apply Array.ext_getElem?
      intro k
      rw [Array.getElem?_modify, Array.getElem?_setIfInBounds]
      by_cases hk : b = k
      · subst hk; rw [if_pos rfl, if_pos rfl, if_pos hb, h]; simp
      · simp [hk]
    show (w.setCell ⟨b, o, none⟩ v).setCells b (o + 1) vs = _
    rw [setCells_block t vs (o + 1) _ b (c.setIfInBounds o v) (by rw [e]; simp [hb]), e]
    simp [writeAll]
/-- Ten pairs are laid over ten others. -/
theorem storeAll {w : World} {b : Nat} {f g : Nat → Int} (h : Sp w b f) : ∃ w', (Instr.storeAt 23 (.pointer (some ⟨b, 0, none⟩)) (.agg (spA g))).run Try.prog w = .ok () w' ∧ w'.heap.size = w.heap.size ∧ Sp w' b g ∧ Below b w w' := by
  have e : w.setCells b 0 (spA g).toList = { w with heap := w.heap.setIfInBounds b (.cells (spA g) 23) } := by
    rw [setCells_block 23 _ 0 w b (spA f) h]
    have : writeAll (spA f) 0 (spA g).toList = spA g := by
      apply Array.ext_getElem?
      intro j
      have hl : (spA g).toList.length = 20 := by simp [spA_size]
      rw [writeAll_get _ 0 _ j (by rw [hl, spA_size]; omega), hl]
      by_cases hj : j < 20
      · rw [if_pos (by omega)]; simp
      · rw [if_neg (by omega), Array.getElem?_eq_none (by rw [spA_size]; omega), Array.getElem?_eq_none (by rw [spA_size]; omega)]
    rw [this]
  have hlt := At.lt h
  refine ⟨_, run_storeAt_mid w b 0 23 (spA g) (fun j hj => ?_) (by rw [spA_size]; exact inf23) ?_, ?_, ?_, ?_⟩
  · rw [spA_size] at hj
    exact ⟨by rw [Nat.zero_add, h.cell j hj]; rfl, At.frozen h _⟩
  · refine Array.all_eq_true_iff_forall_mem.2 fun v hv => ?_
    simp only [spA, spL, List.mem_toArray, List.mem_map] at hv
    obtain ⟨i, _, rfl⟩ := hv
    rfl
  · rw [e]; simp
  · rw [e]; unfold Sp At; simp [hlt]
  · rw [e]
    refine ⟨rfl, rfl, rfl, by simp, fun k hk => ?_⟩
    show (w.heap.setIfInBounds b _)[k]? = _
    rw [Array.getElem?_setIfInBounds_ne (by omega)]
theorem wpList_storeSp (hgd : op.guard = none) (x y : Operand) (ho : op.op = .store 23 x y) (b : Nat) (g : Nat → Int) (hx : a.eval x = .pointer (some ⟨b, 0, none⟩)) (hy : a.eval y = .agg (spA g)) (f : Nat → Int) (h : Sp w b f)
    (hk : ∀ w', w'.heap.size = w.heap.size → Sp w' b g → Below b w w' → wpList Try.prog ops Q rest (a.put op.dst undef) w') : wpList Try.prog ops Q (op :: rest) a w :=
  wpList_plain hgd fun _ hK => by
    obtain ⟨w', e, h0, h1, h2⟩ := storeAll (g := g) h
    unfold Oper.wp execOp
    simp only [ho, hx, hy, Sem.run_bind, Sem.run_pure, Result.andThen_ok, e]
    exact hK _ _ (hk _ h0 h1 h2)
end

/-! ## Pieces -/
def pcV : Pc → Value
  | .txt l => .iface 62 (.string (B l))
  | .grp n => .iface 61 (.int .i64 (n : Int))
/-- Behind the address A the values vs stand. -/
def VRd (w : World) (A : Option Addr) (vs : List Value) : Prop :=
  0 < vs.length → ∃ b off, A = some ⟨b, off, none⟩ ∧ b < w.heap.size ∧ ∀ j u, vs[j]? = some u → w.cell? ⟨b, off + j, none⟩ = some u
section
variable {w w' : World} {A : Option Addr} {vs : List Value}
theorem VRd.nil : VRd w A [] := fun h => absurd h (by simp)
theorem VRd.below (h : VRd w A vs) (hB : Below w.heap.size w w') : VRd w' A vs := fun hn => by
  obtain ⟨b, off, e, hb, hc⟩ := h hn
  exact ⟨b, off, e, by have := hB.size; omega, fun j u hj => (World.cell?_of_block (hB.block b hb)).trans (hc j u hj)⟩
theorem VRd.of_own {base : Nat} {e : TypeId} {n c : Nat} (h : w.ownsRow base e 1 (.slice A n c) n vs) : VRd w A vs := fun hn => by
  rcases h.2 with ⟨hv, h0⟩ | ⟨g, cap, cur, hv, hg, hh, _⟩
  · have := h.1; omega
  · injection hv with hA
    subst hA
    refine ⟨g, 0, rfl, At.lt hh, fun j u hj => ?_⟩
    have := h.cells (g := g) rfl j u hj
    rwa [Go.WideShapes.add_plain] at this
end
/-- v is a replacement whose pieces are ps. -/
def Tp (w : World) (v : Value) (ps : List Pc) : Prop :=
  ∃ b A c, v = .pointer (some ⟨b, 0, none⟩) ∧ At w b 37 #[.slice A ps.length c] ∧ VRd w A (ps.map pcV) ∧ (∀ p ∈ ps, PcOk p)
theorem Tp.below {w w' : World} {v : Value} {ps : List Pc} (h : Tp w v ps) (hB : Below w.heap.size w w') : Tp w' v ps := by
  obtain ⟨b, A, c, e, h1, h2, h3⟩ := h
  exact ⟨b, A, c, e, h1.keep hB h1.lt, h2.below hB, h3⟩
end Go.Proofs.Ytibflbepnlemmaa.tpl
