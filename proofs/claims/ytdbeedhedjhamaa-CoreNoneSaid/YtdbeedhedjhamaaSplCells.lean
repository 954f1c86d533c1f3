/- Splices: a splice's three cells in memory: laid down as one, read as one; a block of its own. -/
import Derived.Test.YtdbeedhedjhamaaCorBase
import Derived.Deep.MidRow
import Derived.OwnWalk
import Derived.Laws.NewBlocks
namespace Go.Proofs.Ytdbeedhedjhamaa.sps
open Go.RowKit Go.Lib pce
set_option linter.unusedVariables false
set_option linter.unusedSimpArgs false
set_option linter.unnecessarySimpa false
set_option linter.unusedSectionVars false

def writeAll (c : Array Value) : Nat → List Value → Array Value
  | _, [] => c
  | o, v :: vs => writeAll (c.setIfInBounds o v) (o + 1) vs
theorem setCells_block (t : TypeId) : ∀ (vs : List Value) (o : Nat) (w : World) (b : Nat) (c : Array Value), w.heap[b]? = some (.cells c t) → w.setCells b o vs = { w with heap := w.heap.setIfInBounds b (.cells (writeAll c o vs) t) }
  | [], o, w, b, c, h => by
    have hb := (Array.getElem?_eq_some_iff.1 h)
    show w = _
    have : w.heap.setIfInBounds b (.cells c t) = w.heap := by
      apply Array.ext_getElem?
      intro k
      rw [Array.getElem?_setIfInBounds]
      by_cases hk : b = k
      · subst hk; simp [hb.1, ← h]
      · simp [hk]
    rw [writeAll, this]
  | v :: vs, o, w, b, c, h => by
    have hb := (Array.getElem?_eq_some_iff.1 h).1
    have e : w.setCell ⟨b, o, none⟩ v = { w with heap := w.heap.setIfInBounds b (.cells (c.setIfInBounds o v) t) } := by
      unfold World.setCell
      congr 1
      apply Array.ext_getElem?
      intro k
      rw [Array.getElem?_modify, Array.getElem?_setIfInBounds]
      by_cases hk : b = k
      · subst hk; rw [if_pos rfl, if_pos rfl, if_pos hb, h]; simp
      · simp [hk]
    show (w.setCell ⟨b, o, none⟩ v).setCells b (o + 1) vs = _
    rw [setCells_block t vs (o + 1) _ b (c.setIfInBounds o v) (by rw [e]; simp [hb]), e]
    simp [writeAll]
theorem infS : (Try.prog.info? 24).map (·.size) = some 3 := by kernel_rfl
/-- Of two worlds block b alone may be another one. -/
structure Only (b : Nat) (w w' : World) : Prop where
  os : w'.os = w.os
  tape : w'.tape = w.tape
  output : w'.output = w.output
  size : w'.heap.size = w.heap.size
  block : ∀ k, k ≠ b → w'.heap[k]? = w.heap[k]?
theorem Only.below {b n : Nat} {w w' : World} (h : Only b w w') (hn : n ≤ b) : Below n w w' := ⟨h.os, h.tape, h.output, by rw [h.size]; exact Nat.le_refl _, fun k hk => h.block k (by omega)⟩
theorem storeS {w : World} {b : Nat} {c0 c1 c2 x0 x1 x2 : Value} (h : At w b 24 #[c0, c1, c2]) (h1 : (#[x0, x1, x2] : Array Value).all Value.oneCell' = true) :
    ∃ w', (Instr.storeAt 24 (.pointer (some ⟨b, 0, none⟩)) (.agg #[x0, x1, x2])).run Try.prog w = .ok () w' ∧ At w' b 24 #[x0, x1, x2] ∧ Only b w w' := by
  have e : w.setCells b 0 [x0, x1, x2] = { w with heap := w.heap.setIfInBounds b (.cells #[x0, x1, x2] 24) } := setCells_block 24 _ 0 w b _ h
  have hlt := At.lt h
  refine ⟨_, run_storeAt_mid w b 0 24 #[x0, x1, x2] (fun j hj => ?_) infS h1, ?_, ?_⟩
  · have hj3 : j < 3 := hj
    rw [Nat.zero_add, h.cell j]
    exact ⟨by rw [Array.getElem?_eq_getElem hj3]; rfl, At.frozen h _⟩
  · show At (w.setCells b 0 [x0, x1, x2]) b _ _
    rw [e]; unfold At; simp [hlt]
  · show Only b w (w.setCells b 0 [x0, x1, x2])
    rw [e]
    refine ⟨rfl, rfl, rfl, by simp, fun k hk => ?_⟩
    show (w.heap.setIfInBounds b _)[k]? = _
    rw [Array.getElem?_setIfInBounds_ne (by omega)]
/-- Laid down in the block that was made last: as if it had been made so. -/
theorem storeL (w : World) (c0 c1 c2 x0 x1 x2 : Value) (h1 : (#[x0, x1, x2] : Array Value).all Value.oneCell' = true) :
    (Instr.storeAt 24 (.pointer (some ⟨w.heap.size, 0, none⟩)) (.agg #[x0, x1, x2])).run Try.prog (w.alloc (.cells #[c0, c1, c2] 24)) = .ok () (w.alloc (.cells #[x0, x1, x2] 24)) := by
  have hA := At.new w 24 #[c0, c1, c2]
  have e : (w.alloc (.cells #[c0, c1, c2] 24)).setCells w.heap.size 0 [x0, x1, x2] = w.alloc (.cells #[x0, x1, x2] 24) := by
    rw [setCells_block 24 _ 0 _ _ _ hA]
    unfold World.alloc
    congr 1
    apply Array.ext_getElem?
    intro k
    simp only [writeAll]
    rw [Array.getElem?_setIfInBounds]
    by_cases hk : w.heap.size = k
    · subst hk; simp
    · rw [if_neg hk, Array.getElem?_push, Array.getElem?_push, if_neg (by omega), if_neg (by omega)]
  have := run_storeAt_mid (P := Try.prog) (w.alloc (.cells #[c0, c1, c2] 24)) w.heap.size 0 24 #[x0, x1, x2] (fun j hj => by
    have hj3 : j < 3 := hj
    rw [Nat.zero_add, hA.cell j]
    exact ⟨by rw [Array.getElem?_eq_getElem hj3]; rfl, At.frozen hA _⟩) infS h1
  rw [this]
  show Result.ok () ((w.alloc (.cells #[c0, c1, c2] 24)).setCells w.heap.size 0 [x0, x1, x2]) = _
  rw [e]
section
variable {ops : Array Oper} {rest : List Oper} {op : Oper} {a : Act} {w : World} {Q : Exit → Act → World → Prop} {K : Act → World → Prop}
theorem wpList_storeL (hgd : op.guard = none) (x y : Operand) (ho : op.op = .store 24 x y) (w0 : World) (c0 c1 c2 : Value) (hw : w = w0.alloc (.cells #[c0, c1, c2] 24)) (x0 x1 : Int) (A : Option Addr) (n c : Nat) (hx : a.eval x = .pointer (some ⟨w0.heap.size, 0, none⟩)) (hy : a.eval y = .agg #[.int .i64 x0, .int .i64 x1, .slice A n c])
    (hk : wpList Try.prog ops Q rest (a.put op.dst undef) (w0.alloc (.cells #[.int .i64 x0, .int .i64 x1, .slice A n c] 24))) : wpList Try.prog ops Q (op :: rest) a w :=
  wpList_plain hgd fun _ hK => by
    unfold Oper.wp execOp
    simp only [ho, hx, hy, hw, Sem.run_bind, Sem.run_pure, Result.andThen_ok, storeL w0 c0 c1 c2 (.int .i64 x0) (.int .i64 x1) (.slice A n c) (by simp [Value.oneCell'])]
    exact hK _ _ hk
theorem wpList_storeS (hgd : op.guard = none) (x y : Operand) (ho : op.op = .store 24 x y) (b : Nat) (x0 x1 : Int) (A : Option Addr) (n c : Nat) (hx : a.eval x = .pointer (some ⟨b, 0, none⟩)) (hy : a.eval y = .agg #[.int .i64 x0, .int .i64 x1, .slice A n c]) (c0 c1 c2 : Value) (h : At w b 24 #[c0, c1, c2])
    (hk : ∀ w', At w' b 24 #[.int .i64 x0, .int .i64 x1, .slice A n c] → Only b w w' → wpList Try.prog ops Q rest (a.put op.dst undef) w') : wpList Try.prog ops Q (op :: rest) a w :=
  wpList_plain hgd fun _ hK => by
    obtain ⟨w', e, h1, h2⟩ := storeS (x0 := .int .i64 x0) (x1 := .int .i64 x1) (x2 := .slice A n c) h (by simp [Value.oneCell'])
    unfold Oper.wp execOp
    simp only [ho, hx, hy, Sem.run_bind, Sem.run_pure, Result.andThen_ok, e]
    exact hK _ _ (hk _ h1 h2)
theorem wp_storeS (x y : Operand) (ho : op.op = .store 24 x y) (b : Nat) (x0 x1 : Int) (A : Option Addr) (n c : Nat) (hx : a.eval x = .pointer (some ⟨b, 0, none⟩)) (hy : a.eval y = .agg #[.int .i64 x0, .int .i64 x1, .slice A n c]) (c0 c1 c2 : Value) (h : At w b 24 #[c0, c1, c2])
    (hk : ∀ w', At w' b 24 #[.int .i64 x0, .int .i64 x1, .slice A n c] → Only b w w' → K (a.put op.dst undef) w') : Oper.wp Try.prog op a w K Q := by
  obtain ⟨w', e, h1, h2⟩ := storeS (x0 := .int .i64 x0) (x1 := .int .i64 x1) (x2 := .slice A n c) h (by simp [Value.oneCell'])
  unfold Oper.wp execOp
  simp only [ho, hx, hy, Sem.run_bind, Sem.run_pure, Result.andThen_ok, e]
  exact hk _ h1 h2
end
/-- Three cells, one by one. -/
theorem three_at {w : World} {b : Nat} {t : TypeId} {x0 x1 x2 : Value} (h : At w b t #[x0, x1, x2]) : w.cell? ⟨b, 0, none⟩ = some x0 ∧ w.cell? ⟨b, 1, none⟩ = some x1 ∧ w.cell? ⟨b, 2, none⟩ = some x2 := ⟨h.cell 0, h.cell 1, h.cell 2⟩
end Go.Proofs.Ytdbeedhedjhamaa.sps
