/- Grids: a grid's five cells in memory: laid down as one, read as one. -/
import Derived.Test.YteekihhngjbjgaaGrdWords
namespace Go.Proofs.Yteekihhngjbjgaa.grd
open Go.RowKit Go.Lib
set_option linter.unusedVariables false
set_option linter.unusedSimpArgs false
set_option linter.unnecessarySimpa false
set_option linter.unusedSectionVars false

/-- Of two worlds block b alone may be another one. -/
structure But (b : Nat) (w w' : World) : Prop where
  os : w'.os = w.os
  tape : w'.tape = w.tape
  output : w'.output = w.output
  size : w'.heap.size = w.heap.size
  block : ∀ k, k ≠ b → w'.heap[k]? = w.heap[k]?
theorem But.below {b n : Nat} {w w' : World} (h : But b w w') (hn : n ≤ b) : Below n w w' := ⟨h.os, h.tape, h.output, by rw [h.size]; exact Nat.le_refl _, fun k hk => h.block k (by omega)⟩
def writeAll (c : Array Value) : Nat → List Value → Array Value
  | _, [] => c
  | o, v :: vs => writeAll (c.setIfInBounds o v) (o + 1) vs
theorem writeAll_size : ∀ (vs : List Value) (o : Nat) (c : Array Value), (writeAll c o vs).size = c.size
  | [], _, _ => rfl
  | v :: vs, o, c => by rw [writeAll, writeAll_size vs]; simp
theorem writeAll_get : ∀ (vs : List Value) (o : Nat) (c : Array Value) (j : Nat), o + vs.length ≤ c.size → (writeAll c o vs)[j]? = if o ≤ j ∧ j < o + vs.length then vs[j - o]? else c[j]?
  | [], o, c, j, h => by
    rw [if_neg (by simp)]
    rfl
  | v :: vs, o, c, j, h => by
    rw [writeAll, writeAll_get vs (o + 1) _ j (by simp at h ⊢; omega)]
    rw [List.length_cons] at h ⊢
    by_cases hj : o = j
    · subst hj
      rw [if_neg (by omega), if_pos (by omega), Array.getElem?_setIfInBounds, if_pos rfl, if_pos (by omega)]
      simp
    · by_cases h2 : o + 1 ≤ j ∧ j < o + 1 + vs.length
      · rw [if_pos h2, if_pos (by omega)]
        obtain ⟨k, rfl⟩ : ∃ k, j = o + 1 + k := ⟨j - (o + 1), by omega⟩
        have e1 : o + 1 + k - (o + 1) = k := by omega
        have e2 : o + 1 + k - o = k + 1 := by omega
        rw [e1, e2, List.getElem?_cons_succ]
      · rw [if_neg h2, if_neg (by omega), Array.getElem?_setIfInBounds, if_neg hj]
theorem setCells_block (t : TypeId) : ∀ (vs : List Value) (o : Nat) (w : World) (b : Nat) (c : Array Value), w.heap[b]? = some (.cells c t) → w.setCells b o vs = { w with heap := w.heap.setIfInBounds b (.cells (writeAll c o vs) t) }
  | [], o, w, b, c, h => by
    have hb := (Array.getElem?_eq_some_iff.1 h)
    show w = _
    have : w.heap.setIfInBounds b (.cells c t) = w.heap := by
      apply Array.ext_getElem?
      intro k
      rw [Array.getElem?_setIfInBounds]
      by_cases hk : b = k
      · subst hk; simp [hb.1, ← h]
      · simp [hk]
    rw [writeAll, this]
  | v :: vs, o, w, b, c, h => by
    have hb := (Array.getElem?_eq_some_iff.1 h).1
    have e : w.setCell ⟨b, o, none⟩ v = { w with heap := w.heap.setIfInBounds b (.cells (c.setIfInBounds o v) t) } := by
      unfold World.setCell
      congr 1
      apply Array.ext_getElem?
      intro k
      rw [Array.getElem?_modify, Array.getElem?_setIfInBounds]
      by_cases hk : b = k
      · subst hk; rw [if_pos rfl, if_pos rfl, if_pos hb, h]; simp
      · simp [hk]
    show (w.setCell ⟨b, o, none⟩ v).setCells b (o + 1) vs = _
    rw [setCells_block t vs (o + 1) _ b (c.setIfInBounds o v) (by rw [e]; simp [hb]), e]
    simp [writeAll]
theorem inf24 : (Try.prog.info? 34).map (·.size) = some 5 := by kernel_rfl
/-- A grid's cells. -/
def gA (R C : Int) (v : Value) (r k : Int) : Array Value := #[.int .i64 R, .int .i64 C, v, .int .i64 r, .int .i64 k]
theorem storeG {w : World} {b : Nat} {cs xs : Array Value} (h : At w b 34 cs) (hc : cs.size = 5) (hx : xs.size = 5) (h1 : xs.all Value.oneCell' = true) : ∃ w', (Instr.storeAt 34 (.pointer (some ⟨b, 0, none⟩)) (.agg xs)).run Try.prog w = .ok () w' ∧ At w' b 34 xs ∧ But b w w' := by
  have e : w.setCells b 0 xs.toList = { w with heap := w.heap.setIfInBounds b (.cells xs 34) } := by
    rw [setCells_block 34 _ 0 w b cs h]
    have : writeAll cs 0 xs.toList = xs := by
      apply Array.ext_getElem?
      intro j
      have hl : xs.toList.length = 5 := by simp [hx]
      rw [writeAll_get _ 0 _ j (by rw [hl]; omega), hl]
      by_cases hj : j < 5
      · rw [if_pos (by omega)]; simp
      · rw [if_neg (by omega), Array.getElem?_eq_none (by omega), Array.getElem?_eq_none (by omega)]
    rw [this]
  have hlt := At.lt h
  refine ⟨_, run_storeAt_mid w b 0 34 xs (fun j hj => ?_) (by rw [hx]; exact inf24) h1, ?_, ?_⟩
  · rw [Nat.zero_add, h.cell j]
    exact ⟨by rw [Array.getElem?_eq_getElem (by omega)]; rfl, At.frozen h _⟩
  · rw [e]; unfold At; simp [hlt]
  · rw [e]
    refine ⟨rfl, rfl, rfl, by simp, fun k hk => ?_⟩
    show (w.heap.setIfInBounds b _)[k]? = _
    rw [Array.getElem?_setIfInBounds_ne (by omega)]
section
variable {ops : Array Oper} {rest : List Oper} {op : Oper} {a : Act} {w : World} {Q : Exit → Act → World → Prop}
theorem wpList_storeG (hgd : op.guard = none) (x y : Operand) (ho : op.op = .store 34 x y) (b : Nat) (x0 x1 x3 x4 : Int) (A : Option Addr) (n c : Nat) (hx : a.eval x = .pointer (some ⟨b, 0, none⟩)) (hy : a.eval y = .agg #[.int .i64 x0, .int .i64 x1, .slice A n c, .int .i64 x3, .int .i64 x4]) (cs : Array Value) (h : At w b 34 cs) (hc : cs.size = 5)
    (hk : ∀ w', At w' b 34 #[.int .i64 x0, .int .i64 x1, .slice A n c, .int .i64 x3, .int .i64 x4] → But b w w' → wpList Try.prog ops Q rest (a.put op.dst undef) w') : wpList Try.prog ops Q (op :: rest) a w :=
  wpList_plain hgd fun _ hK => by
    obtain ⟨w', e, h1, h2⟩ := storeG (xs := #[.int .i64 x0, .int .i64 x1, .slice A n c, .int .i64 x3, .int .i64 x4]) h hc rfl (by simp [Value.oneCell'])
    unfold Oper.wp execOp
    simp only [ho, hx, hy, Sem.run_bind, Sem.run_pure, Result.andThen_ok, e]
    exact hK _ _ (hk _ h1 h2)
end
/-- Five cells, one by one. -/
theorem At.five {w : World} {b : Nat} {t : TypeId} {x0 x1 x2 x3 x4 : Value} (h : At w b t #[x0, x1, x2, x3, x4]) : w.cell? ⟨b, 0, none⟩ = some x0 ∧ w.cell? ⟨b, 1, none⟩ = some x1 ∧ w.cell? ⟨b, 2, none⟩ = some x2 ∧ w.cell? ⟨b, 3, none⟩ = some x3 ∧ w.cell? ⟨b, 4, none⟩ = some x4 := ⟨h.cell 0, h.cell 1, h.cell 2, h.cell 3, h.cell 4⟩
end Go.Proofs.Yteekihhngjbjgaa.grd
