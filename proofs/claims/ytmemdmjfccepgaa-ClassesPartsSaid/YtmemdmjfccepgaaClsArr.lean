/- Arrays of 256 bools: what the operations on them do. -/
import Derived.Test.YtmemdmjfccepgaaClsWords
import Derived.Lib.Hide
namespace Go.Proofs.Ytmemdmjfccepgaa.cls
open Go.RowKit Go.Lib
set_option linter.unusedVariables false
set_option linter.unusedSimpArgs false
set_option linter.unnecessarySimpa false
set_option linter.unusedSectionVars false

def putA (w : World) (b : Nat) (g : Nat → Bool) : World := { w with heap := w.heap.setIfInBounds b (.cells (arr g) 22) }
section
variable {w : World} {b : Nat} {f g : Nat → Bool}
theorem putA_arr (h : b < w.heap.size) : Arr (putA w b g) b g := by
  unfold Arr putA
  simp [h]
theorem putA_but : But b w (putA w b g) := ⟨rfl, rfl, rfl, by simp [putA], fun k hk => by simp [putA, Array.getElem?_setIfInBounds_ne (Ne.symm hk)]⟩
theorem setCell_put (h : Arr w b f) (i : Nat) (x : Bool) (hi : i < 256) : w.setCell ⟨b, i, none⟩ (.bool x) = putA w b (upd f i x) := by
  unfold World.setCell putA
  congr 1
  apply Array.ext_getElem?
  intro k
  rw [Array.getElem?_modify, Array.getElem?_setIfInBounds]
  by_cases hk : b = k
  · subst hk
    have hlt := h.lt
    unfold Arr at h
    rw [if_pos rfl, if_pos rfl, if_pos hlt, h]
    simp [arr_set f i x hi]
  · simp [hk]
end
def writeAll (c : Array Value) : Nat → List Value → Array Value
  | _, [] => c
  | o, v :: vs => writeAll (c.setIfInBounds o v) (o + 1) vs
theorem writeAll_size : ∀ (vs : List Value) (o : Nat) (c : Array Value), (writeAll c o vs).size = c.size
  | [], _, _ => rfl
  | v :: vs, o, c => by rw [writeAll, writeAll_size vs]; simp
theorem writeAll_get : ∀ (vs : List Value) (o : Nat) (c : Array Value) (j : Nat), o + vs.length ≤ c.size → (writeAll c o vs)[j]? = if o ≤ j ∧ j < o + vs.length then vs[j - o]? else c[j]?
  | [], o, c, j, h => by
    rw [if_neg (by simp)]
    rfl
  | v :: vs, o, c, j, h => by
    rw [writeAll, writeAll_get vs (o + 1) _ j (by simp at h ⊢; omega)]
    rw [List.length_cons] at h ⊢
    by_cases hj : o = j
    · subst hj
      rw [if_neg (by omega), if_pos (by omega), Array.getElem?_setIfInBounds, if_pos rfl, if_pos (by omega)]
      simp
    · by_cases h2 : o + 1 ≤ j ∧ j < o + 1 + vs.length
      · rw [if_pos h2, if_pos (by omega)]
        obtain ⟨k, rfl⟩ : ∃ k, j = o + 1 + k := ⟨j - (o + 1), by omega⟩
        have e1 : o + 1 + k - (o + 1) = k := by omega
        have e2 : o + 1 + k - o = k + 1 := by omega
        rw [e1, e2, List.getElem?_cons_succ]
      · rw [if_neg h2, if_neg (by omega), Array.getElem?_setIfInBounds, if_neg hj]
theorem setCells_block (t : TypeId) : ∀ (vs : List Value) (o : Nat) (w : World) (b : Nat) (c : Array Value), w.heap[b]? = some (.cells c t) → w.setCells b o vs = { w with heap := w.heap.setIfInBounds b (.cells (writeAll c o vs) t) }
  | [], o, w, b, c, h => by
    have hb := (Array.getElem?_eq_some_iff.1 h)
    show w = _
    have : w.heap.setIfInBounds b (.cells c t) = w.heap := by
      apply Array.ext_getElem?
      intro k
      rw [Array.getElem?_setIfInBounds]
      by_cases hk : b = k
      · subst hk; simp [hb.1, ← h]
      · simp [hk]
    rw [writeAll, this]
  | v :: vs, o, w, b, c, h => by
    have hb := (Array.getElem?_eq_some_iff.1 h).1
    have e : w.setCell ⟨b, o, none⟩ v = { w with heap := w.heap.setIfInBounds b (.cells (c.setIfInBounds o v) t) } := by
      unfold World.setCell
      congr 1
      apply Array.ext_getElem?
      intro k
      rw [Array.getElem?_modify, Array.getElem?_setIfInBounds]
      by_cases hk : b = k
      · subst hk; rw [if_pos rfl, if_pos rfl, if_pos hb, h]; simp
      · simp [hk]
    show (w.setCell ⟨b, o, none⟩ v).setCells b (o + 1) vs = _
    rw [setCells_block t vs (o + 1) _ b (c.setIfInBounds o v) (by rw [e]; simp [hb]), e]
    simp [writeAll]
theorem setCells_put {w : World} {b : Nat} {f g : Nat → Bool} (h : Arr w b f) : w.setCells b 0 (arr g).toList = putA w b g := by
  rw [setCells_block _ _ 0 w b (arr f) h]
  unfold putA
  have : writeAll (arr f) 0 (arr g).toList = arr g := by
    apply Array.ext_getElem?
    intro j
    have hl : (arr g).toList.length = 256 := by simp [arr_size]
    rw [writeAll_get _ 0 _ j (by rw [hl, arr_size]; omega), hl]
    by_cases hj : j < 256
    · rw [if_pos (by omega)]; simp
    · rw [if_neg (by omega), Array.getElem?_eq_none (by rw [arr_size]; omega), Array.getElem?_eq_none (by rw [arr_size]; omega)]
  rw [this]

theorem und : Try.prog.underlying 22 = some (.array 256 4) := by kernel_rfl
theorem inf : (Try.prog.info? 22).map (·.size) = some 256 := by kernel_rfl
theorem zer (w : World) : (zeroValue 22).run Try.prog w = .ok (.agg (arr noB)) w := by kernel_rfl

theorem run_loadA {w : World} {b : Nat} {f : Nat → Bool} (h : Arr w b f) : (loadVar 22 ⟨b, 0, none⟩).run Try.prog w = .ok (.agg (arr f)) w := by
  have := run_loadVar_mid (P := Try.prog) w b 0 22 (arrL f) _ (fun j v hv => by
    have hj : j < 256 := by have := (List.getElem?_eq_some_iff.1 hv).1; rwa [arrL_len] at this
    rw [Nat.zero_add, h.cell hj, ← hv, arrL_get f j hj]) und rfl (by rw [arrL_len]; exact inf)
  exact this
theorem run_loadAtA {w : World} {b : Nat} {f : Nat → Bool} (h : Arr w b f) : (Instr.loadAt 22 (.pointer (some ⟨b, 0, none⟩))).run Try.prog w = .ok (.agg (arr f)) w := by
  simp only [Instr.loadAt, Instr.sureAddr, Sem.run_bind, Sem.run_pure, Result.andThen_ok, run_loadA h]
theorem run_storeA {w : World} {b : Nat} {f g : Nat → Bool} (h : Arr w b f) : (storeVar 22 ⟨b, 0, none⟩ (.agg (arr g))).run Try.prog w = .ok () (putA w b g) := by
  have := run_storeVar_mid (P := Try.prog) w b 0 22 (arr g) (fun j hj => by
    rw [arr_size] at hj
    refine ⟨by rw [Nat.zero_add, h.cell hj]; rfl, ?_⟩
    unfold Arr at h
    simp [World.frozen?, h]) (by rw [arr_size]; exact inf) (Array.all_eq_true_iff_forall_mem.2 fun v hv => arr_one g v hv)
  rw [this, setCells_put h]
theorem run_storeAtA {w : World} {b : Nat} {f g : Nat → Bool} (h : Arr w b f) : (Instr.storeAt 22 (.pointer (some ⟨b, 0, none⟩)) (.agg (arr g))).run Try.prog w = .ok () (putA w b g) := by
  simp only [Instr.storeAt, Instr.sureAddr, Sem.run_bind, Sem.run_pure, Result.andThen_ok, run_storeA h]
theorem run_allocA (w : World) (old : Value) : (Instr.alloc 22 true old).run Try.prog w = .ok (.pointer (some ⟨w.heap.size, 0, none⟩)) (w.alloc (.cells (arr noB) 22)) := by
  simp only [Instr.alloc, Sem.run_bind, zer, Result.andThen_ok]
  rfl
theorem run_boxA (w : World) (f : Nat → Bool) : (Instr.box 22 (.agg (arr f))).run Try.prog w = .ok (.pointer (some ⟨w.heap.size, 0, none⟩)) (w.alloc (.cells (arr f) 22)) := rfl
theorem arr_new (w : World) (f : Nat → Bool) : Arr (w.alloc (.cells (arr f) 22)) w.heap.size f := by
  unfold Arr World.alloc; simp

/-! ### Results that stand in a cell -/
theorem results_A1 {fn : Func} {p : Tmp} (h : fn.results = #[.cell p 22]) {tmps : Array Value} {b : Nat} (hp : tmps.getD p undef = .pointer (some ⟨b, 0, none⟩)) {w : World} {f : Nat → Bool} (hA : Arr w b f) :
    (results fn tmps).run Try.prog w = .ok (.agg (arr f)) w := by
  simp only [results, h]
  rw [Array.getD_eq_getD_getElem?] at hp
  simp [Sem.run_bind, Result.andThen, hp, asAddr, run_loadA hA]
theorem results_A2 {fn : Func} {p u : Tmp} (h : fn.results = #[.cell p 22, .tmp u]) {tmps : Array Value} {b : Nat} (hp : tmps.getD p undef = .pointer (some ⟨b, 0, none⟩)) {w : World} {f : Nat → Bool} (hA : Arr w b f) :
    (results fn tmps).run Try.prog w = .ok (.tuple #[.agg (arr f), tmps.getD u undef]) w := by
  simp only [results, h]
  rw [Array.getD_eq_getD_getElem?] at hp
  simp [Sem.run_bind, Result.andThen, hp, asAddr, run_loadA hA]
theorem results_A3 {fn : Func} {p u v : Tmp} (h : fn.results = #[.cell p 22, .tmp u, .tmp v]) {tmps : Array Value} {b : Nat} (hp : tmps.getD p undef = .pointer (some ⟨b, 0, none⟩)) {w : World} {f : Nat → Bool} (hA : Arr w b f) :
    (results fn tmps).run Try.prog w = .ok (.tuple #[.agg (arr f), tmps.getD u undef, tmps.getD v undef]) w := by
  simp only [results, h]
  rw [Array.getD_eq_getD_getElem?] at hp
  simp [Sem.run_bind, Result.andThen, hp, asAddr, run_loadA hA]

/-! ### At the walk's list -/
section
variable {ops : Array Oper} {rest : List Oper} {op : Oper} {a : Act} {w : World} {Q : Exit → Act → World → Prop}
theorem wpList_loadA (hgd : op.guard = none) (x : Operand) (ho : op.op = .load 22 x) (b : Nat) (hx : a.eval x = .pointer (some ⟨b, 0, none⟩)) (f : Nat → Bool) (h : Arr w b f)
    (hk : wpList Try.prog ops Q rest (a.put op.dst (.agg (arr f))) w) : wpList Try.prog ops Q (op :: rest) a w :=
  wpList_plain hgd fun _ hK => by
    unfold Oper.wp execOp
    simp only [ho, hx, Sem.run_bind, Sem.run_pure, Result.andThen_ok, run_loadAtA h]
    exact hK _ _ hk
theorem wpList_storeA (hgd : op.guard = none) (x y : Operand) (ho : op.op = .store 22 x y) (b : Nat) (g : Nat → Bool) (hx : a.eval x = .pointer (some ⟨b, 0, none⟩)) (hy : a.eval y = .agg (arr g)) (f : Nat → Bool) (h : Arr w b f)
    (hk : ∀ w', Arr w' b g → But b w w' → wpList Try.prog ops Q rest (a.put op.dst undef) w') : wpList Try.prog ops Q (op :: rest) a w :=
  wpList_plain hgd fun _ hK => by
    unfold Oper.wp execOp
    simp only [ho, hx, hy, Sem.run_bind, Sem.run_pure, Result.andThen_ok, run_storeAtA h]
    exact hK _ _ (hk _ (putA_arr h.lt) putA_but)
theorem wpList_allocA (hgd : op.guard = none) (ho : op.op = .alloc 22)
    (hk : ∀ w', w'.heap.size = w.heap.size + 1 → Arr w' w.heap.size noB → Below w.heap.size w w' → wpList Try.prog ops Q rest (a.put op.dst (.pointer (some ⟨w.heap.size, 0, none⟩))) w') : wpList Try.prog ops Q (op :: rest) a w :=
  wpList_plain hgd fun _ hK => by
    unfold Oper.wp execOp
    simp only [ho, Sem.run_bind, Sem.run_pure, Result.andThen_ok, run_allocA]
    exact hK _ _ (hk _ (by simp) (arr_new w noB) ((Below.refl _ _).alloc (Nat.le_refl _) _))
theorem wpList_boxA (hgd : op.guard = none) (x : Operand) (ho : op.op = .box 22 x) (f : Nat → Bool) (hx : a.eval x = .agg (arr f))
    (hk : ∀ w', w'.heap.size = w.heap.size + 1 → Arr w' w.heap.size f → Below w.heap.size w w' → wpList Try.prog ops Q rest (a.put op.dst (.pointer (some ⟨w.heap.size, 0, none⟩))) w') : wpList Try.prog ops Q (op :: rest) a w :=
  wpList_plain hgd fun _ hK => by
    unfold Oper.wp execOp
    simp only [ho, hx, Sem.run_bind, Sem.run_pure, Result.andThen_ok, run_boxA]
    exact hK _ _ (hk _ (by simp) (arr_new w f) ((Below.refl _ _).alloc (Nat.le_refl _) _))
end
end Go.Proofs.Ytmemdmjfccepgaa.cls
