/- Marks by value: 26 numbers, as one word. -/
import Derived.Test.YtdbeedhedjhamaaMrkPure
import Derived.Test.YtdbeedhedjhamaaSplCells
import Derived.Lib.Hide
namespace Go.Proofs.Ytdbeedhedjhamaa.mrk
open Go.RowKit Go.Lib pce sps
set_option linter.unusedVariables false
set_option linter.unusedSimpArgs false
set_option linter.unnecessarySimpa false
set_option linter.unusedSectionVars false

def arrL (f : Nat → Int) : List Value := (List.range 26).map fun i => Value.int .i64 (f i)
def arr (f : Nat → Int) : Array Value := (arrL f).toArray
def upd (f : Nat → Int) (i : Nat) (x : Int) : Nat → Int := fun j => if j = i then x else f j
def noM : Nat → Int := fun _ => 0
theorem arrL_len (f : Nat → Int) : (arrL f).length = 26 := by simp [arrL]
theorem arr_size (f : Nat → Int) : (arr f).size = 26 := by simp [arr, arrL]
theorem arrL_get (f : Nat → Int) (i : Nat) (h : i < 26) : (arrL f)[i]? = some (.int .i64 (f i)) := by simp [arrL, h]
theorem arr_get (f : Nat → Int) (i : Nat) (h : i < 26) : (arr f)[i]? = some (.int .i64 (f i)) := by simp [arr, arrL, h]
theorem arr_ext {f g : Nat → Int} (h : ∀ i, i < 26 → f i = g i) : arr f = arr g := by
  unfold arr arrL
  congr 1
  exact List.map_congr_left fun i hi => by rw [h i (List.mem_range.1 hi)]
theorem arr_inj {f g : Nat → Int} (h : arr f = arr g) (i : Nat) (hi : i < 26) : f i = g i := by
  have := arr_get f i hi
  rw [h, arr_get g i hi] at this
  injection this with this
  injection this with _ this
  exact this.symm
theorem arr_set (f : Nat → Int) (i : Nat) (x : Int) (h : i < 26) : (arr f).setIfInBounds i (.int .i64 x) = arr (upd f i x) := by
  apply Array.ext_getElem?
  intro j
  rw [Array.getElem?_setIfInBounds]
  by_cases hj : j < 26
  · rw [arr_get (upd f i x) j hj]
    by_cases hij : i = j
    · subst hij
      rw [if_pos rfl, if_pos (by rw [arr_size]; exact h)]
      simp [upd]
    · rw [if_neg hij, arr_get f j hj]
      simp [upd, Ne.symm hij]
  · have e1 : (arr (upd f i x))[j]? = none := by rw [Array.getElem?_eq_none]; rw [arr_size]; omega
    have e2 : (arr f)[j]? = none := by rw [Array.getElem?_eq_none]; rw [arr_size]; omega
    rw [e1, e2]
    split
    · rename_i hij; subst hij; rw [if_neg (by rw [arr_size]; omega)]
    · rfl
theorem arr_one (f : Nat → Int) : ∀ v ∈ arr f, v.oneCell' = true := by
  intro v hv
  simp only [arr, arrL, List.mem_toArray, List.mem_map] at hv
  obtain ⟨i, _, rfl⟩ := hv
  rfl
/-- Block b is the marks f. -/
def Arr (w : World) (b : Nat) (f : Nat → Int) : Prop := At w b 36 (arr f)
section
variable {w w' w'' : World} {b n : Nat} {f g : Nat → Int}
theorem Arr.lt (h : Arr w b f) : b < w.heap.size := At.lt h
theorem Arr.cell (h : Arr w b f) {i : Nat} (hi : i < 26) : w.cell? ⟨b, i, none⟩ = some (.int .i64 (f i)) := by rw [At.cell h i]; exact arr_get f i hi
theorem Arr.frozen (h : Arr w b f) (i : Nat) : w.frozen? ⟨b, i, none⟩ = false := At.frozen h i
theorem Arr.keep (h : Arr w b f) (hB : Below n w w') (hn : b < n) : Arr w' b f := (hB.block b hn).trans h
theorem Arr.all (h : Arr w b f) (hB : Below w.heap.size w w') : Arr w' b f := h.keep hB h.lt
theorem Arr.drew (h : Arr w b f) : Arr w.drew b f := h
theorem Arr.drewN (h : Arr w b f) (q : Nat) : Arr (w.drewN q) b f := h
theorem Arr.alloc (h : Arr w b f) (o : Obj) : Arr (w.alloc o) b f := At.alloc h o
theorem Arr.only {c : Nat} (h : Arr w b f) (hO : Only c w w') (hn : b ≠ c) : Arr w' b f := (hO.block b hn).trans h
theorem Arr.set (h : Arr w b f) {i : Nat} (hi : i < 26) (x : Int) : Arr (w.setCell ⟨b, i, none⟩ (.int .i64 x)) b (upd f i x) := by
  have := At.set h i (.int .i64 x)
  rw [arr_set f i x hi] at this
  exact this
theorem Arr.far' (h : Arr w b f) {p : Addr} (hp : b ≠ p.block) (u : Value) : Arr (w.setCell p u) b f := At.far h hp u
theorem Arr.ext (h : Arr w b f) (hx : ∀ i, i < 26 → f i = g i) : Arr w b g := by unfold Arr; rw [← arr_ext hx]; exact h
theorem Only.refl' : Only b w w := ⟨rfl, rfl, rfl, rfl, fun _ _ => rfl⟩
theorem Only.trans (h : Only b w w') (k : Only b w' w'') : Only b w w'' := ⟨k.os.trans h.os, k.tape.trans h.tape, k.output.trans h.output, k.size.trans h.size, fun i hi => (k.block i hi).trans (h.block i hi)⟩
theorem Only.cell (w : World) (b i : Nat) (u : Value) : Only b w (w.setCell ⟨b, i, none⟩ u) := ⟨rfl, rfl, rfl, by simp [World.setCell], fun k hk => Below.heap_setCell w _ u k (by simpa using hk)⟩
end
theorem und : Try.prog.underlying 36 = some (.array 26 3) := by kernel_rfl
theorem inf : (Try.prog.info? 36).map (·.size) = some 26 := by kernel_rfl
theorem zer (w : World) : (zeroValue 36).run Try.prog w = .ok (.agg (arr noM)) w := by kernel_rfl
theorem run_loadA {w : World} {b : Nat} {f : Nat → Int} (h : Arr w b f) : (loadVar 36 ⟨b, 0, none⟩).run Try.prog w = .ok (.agg (arr f)) w := by
  have := run_loadVar_mid (P := Try.prog) w b 0 36 (arrL f) _ (fun j v hv => by
    have hj : j < 26 := by have := (List.getElem?_eq_some_iff.1 hv).1; rwa [arrL_len] at this
    rw [Nat.zero_add, h.cell hj, ← hv, arrL_get f j hj]) und rfl (by rw [arrL_len]; exact inf)
  exact this
theorem run_loadAtA {w : World} {b : Nat} {f : Nat → Int} (h : Arr w b f) : (Instr.loadAt 36 (.pointer (some ⟨b, 0, none⟩))).run Try.prog w = .ok (.agg (arr f)) w := by
  simp only [Instr.loadAt, Instr.sureAddr, Sem.run_bind, Sem.run_pure, Result.andThen_ok, run_loadA h]
def writeAll' (c : Array Value) : Nat → List Value → Array Value := sps.writeAll c
theorem writeAll_get : ∀ (vs : List Value) (o : Nat) (c : Array Value) (j : Nat), o + vs.length ≤ c.size → (sps.writeAll c o vs)[j]? = if o ≤ j ∧ j < o + vs.length then vs[j - o]? else c[j]?
  | [], o, c, j, h => by
    rw [if_neg (by simp)]
    rfl
  | v :: vs, o, c, j, h => by
    rw [sps.writeAll, writeAll_get vs (o + 1) _ j (by simp at h ⊢; omega)]
    rw [List.length_cons] at h ⊢
    by_cases hj : o = j
    · subst hj
      rw [if_neg (by omega), if_pos (by omega), Array.getElem?_setIfInBounds, if_pos rfl, if_pos (by omega)]
      simp
    · by_cases h2 : o + 1 ≤ j ∧ j < o + 1 + vs.length
      · rw [if_pos h2, if_pos (by omega)]
        obtain ⟨k, rfl⟩ : ∃ k, j = o + 1 + k := ⟨j - (o + 1), by omega⟩
        have e1 : o + 1 + k - (o + 1) = k := by omega
        have e2 : o + 1 + k - o = k + 1 := by omega
        rw [e1, e2, List.getElem?_cons_succ]
      · rw [if_neg h2, if_neg (by omega), Array.getElem?_setIfInBounds, if_neg hj]
theorem writeAll_arr (f g : Nat → Int) : sps.writeAll (arr f) 0 (arr g).toList = arr g := by
  apply Array.ext_getElem?
  intro j
  have hl : (arr g).toList.length = 26 := by simp [arr_size]
  rw [writeAll_get _ 0 _ j (by rw [hl, arr_size]; omega), hl]
  by_cases hj : j < 26
  · rw [if_pos (by omega)]; simp
  · rw [if_neg (by omega), Array.getElem?_eq_none (by rw [arr_size]; omega), Array.getElem?_eq_none (by rw [arr_size]; omega)]
theorem setCells_put {w : World} {b : Nat} {f g : Nat → Int} (h : Arr w b f) : w.setCells b 0 (arr g).toList = { w with heap := w.heap.setIfInBounds b (.cells (arr g) 36) } := by
  rw [setCells_block _ _ 0 w b (arr f) h, writeAll_arr]
theorem run_storeAtA {w : World} {b : Nat} {f g : Nat → Int} (h : Arr w b f) : (Instr.storeAt 36 (.pointer (some ⟨b, 0, none⟩)) (.agg (arr g))).run Try.prog w = .ok () { w with heap := w.heap.setIfInBounds b (.cells (arr g) 36) } := by
  have := run_storeAt_mid (P := Try.prog) w b 0 36 (arr g) (fun j hj => by
    rw [arr_size] at hj
    exact ⟨by rw [Nat.zero_add, h.cell hj]; rfl, h.frozen _⟩) (by rw [arr_size]; exact inf) (Array.all_eq_true_iff_forall_mem.2 fun v hv => arr_one g v hv)
  rw [this, setCells_put h]
theorem put_arr {w : World} {b : Nat} {g : Nat → Int} (h : b < w.heap.size) : Arr { w with heap := w.heap.setIfInBounds b (.cells (arr g) 36) } b g := by
  unfold Arr At; simp [h]
theorem put_only {w : World} {b : Nat} {g : Nat → Int} : Only b w { w with heap := w.heap.setIfInBounds b (.cells (arr g) 36) } := ⟨rfl, rfl, rfl, by simp, fun k hk => by simp [Array.getElem?_setIfInBounds_ne (Ne.symm hk)]⟩
theorem run_allocA (w : World) (old : Value) : (Instr.alloc 36 true old).run Try.prog w = .ok (.pointer (some ⟨w.heap.size, 0, none⟩)) (w.alloc (.cells (arr noM) 36)) := by
  simp only [Instr.alloc, Sem.run_bind, zer, Result.andThen_ok]
  rfl
theorem run_boxA (w : World) (f : Nat → Int) : (Instr.box 36 (.agg (arr f))).run Try.prog w = .ok (.pointer (some ⟨w.heap.size, 0, none⟩)) (w.alloc (.cells (arr f) 36)) := rfl
theorem arr_new (w : World) (f : Nat → Int) : Arr (w.alloc (.cells (arr f) 36)) w.heap.size f := At.new w _ _

/-! ### Results that stand in a cell -/
theorem results_A1 {fn : Func} {p : Tmp} (h : fn.results = #[.cell p 36]) {tmps : Array Value} {b : Nat} (hp : tmps.getD p undef = .pointer (some ⟨b, 0, none⟩)) {w : World} {f : Nat → Int} (hA : Arr w b f) :
    (results fn tmps).run Try.prog w = .ok (.agg (arr f)) w := by
  simp only [results, h]
  rw [Array.getD_eq_getD_getElem?] at hp
  simp [Sem.run_bind, Result.andThen, hp, asAddr, run_loadA hA]
theorem results_A2 {fn : Func} {p u : Tmp} (h : fn.results = #[.cell p 36, .tmp u]) {tmps : Array Value} {b : Nat} (hp : tmps.getD p undef = .pointer (some ⟨b, 0, none⟩)) {w : World} {f : Nat → Int} (hA : Arr w b f) :
    (results fn tmps).run Try.prog w = .ok (.tuple #[.agg (arr f), tmps.getD u undef]) w := by
  simp only [results, h]
  rw [Array.getD_eq_getD_getElem?] at hp
  simp [Sem.run_bind, Result.andThen, hp, asAddr, run_loadA hA]

/-! ### At the walk's list -/
section
variable {ops : Array Oper} {rest : List Oper} {op : Oper} {a : Act} {w : World} {Q : Exit → Act → World → Prop} {K : Act → World → Prop}
theorem wpList_loadA (hgd : op.guard = none) (x : Operand) (ho : op.op = .load 36 x) (b : Nat) (hx : a.eval x = .pointer (some ⟨b, 0, none⟩)) (f : Nat → Int) (h : Arr w b f)
    (hk : wpList Try.prog ops Q rest (a.put op.dst (.agg (arr f))) w) : wpList Try.prog ops Q (op :: rest) a w :=
  wpList_plain hgd fun _ hK => by
    unfold Oper.wp execOp
    simp only [ho, hx, Sem.run_bind, Sem.run_pure, Result.andThen_ok, run_loadAtA h]
    exact hK _ _ hk
theorem wp_storeA (x y : Operand) (ho : op.op = .store 36 x y) (b : Nat) (g : Nat → Int) (hx : a.eval x = .pointer (some ⟨b, 0, none⟩)) (hy : a.eval y = .agg (arr g)) (f : Nat → Int) (h : Arr w b f)
    (hk : ∀ w', Arr w' b g → Only b w w' → K (a.put op.dst undef) w') : Oper.wp Try.prog op a w K Q := by
  unfold Oper.wp execOp
  simp only [ho, hx, hy, Sem.run_bind, Sem.run_pure, Result.andThen_ok, run_storeAtA h]
  exact hk _ (put_arr h.lt) put_only
theorem wpList_storeA (hgd : op.guard = none) (x y : Operand) (ho : op.op = .store 36 x y) (b : Nat) (g : Nat → Int) (hx : a.eval x = .pointer (some ⟨b, 0, none⟩)) (hy : a.eval y = .agg (arr g)) (f : Nat → Int) (h : Arr w b f)
    (hk : ∀ w', Arr w' b g → Only b w w' → wpList Try.prog ops Q rest (a.put op.dst undef) w') : wpList Try.prog ops Q (op :: rest) a w :=
  wpList_plain hgd fun _ hK => wp_storeA x y ho b g hx hy f h fun w' h1 h2 => hK _ _ (hk w' h1 h2)
theorem wpList_allocA (hgd : op.guard = none) (ho : op.op = .alloc 36)
    (hk : ∀ w', w'.heap.size = w.heap.size + 1 → Arr w' w.heap.size noM → Below w.heap.size w w' → wpList Try.prog ops Q rest (a.put op.dst (.pointer (some ⟨w.heap.size, 0, none⟩))) w') : wpList Try.prog ops Q (op :: rest) a w :=
  wpList_plain hgd fun _ hK => by
    unfold Oper.wp execOp
    simp only [ho, Sem.run_bind, Sem.run_pure, Result.andThen_ok, run_allocA]
    exact hK _ _ (hk _ (by simp) (arr_new w noM) ((Below.refl _ _).alloc (Nat.le_refl _) _))
theorem wpList_boxA (hgd : op.guard = none) (x : Operand) (ho : op.op = .box 36 x) (f : Nat → Int) (hx : a.eval x = .agg (arr f))
    (hk : ∀ w', w'.heap.size = w.heap.size + 1 → Arr w' w.heap.size f → Below w.heap.size w w' → wpList Try.prog ops Q rest (a.put op.dst (.pointer (some ⟨w.heap.size, 0, none⟩))) w') : wpList Try.prog ops Q (op :: rest) a w :=
  wpList_plain hgd fun _ hK => by
    unfold Oper.wp execOp
    simp only [ho, hx, Sem.run_bind, Sem.run_pure, Result.andThen_ok, run_boxA]
    exact hK _ _ (hk _ (by simp) (arr_new w f) ((Below.refl _ _).alloc (Nat.le_refl _) _))
end
end Go.Proofs.Ytdbeedhedjhamaa.mrk
