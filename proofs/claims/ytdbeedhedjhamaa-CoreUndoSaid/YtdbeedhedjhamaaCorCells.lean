/- Core: values of many cells as one word: read and written at any place of a block that is known whole. -/
import Derived.Test.YtdbeedhedjhamaaMrkArr
import Derived.Deep.MidRow
namespace Go.Proofs.Ytdbeedhedjhamaa.cor
open Go.RowKit Go.Lib pce sps mrk
set_option linter.unusedVariables false
set_option linter.unusedSimpArgs false
set_option linter.unnecessarySimpa false
set_option linter.unusedSectionVars false

theorem writeAll_mid (l1 m m' l2 : List Value) (h : m'.length = m.length) : sps.writeAll (l1 ++ m ++ l2).toArray l1.length m' = (l1 ++ m' ++ l2).toArray := by
  apply Array.ext_getElem?
  intro j
  rw [mrk.writeAll_get _ _ _ j (by simp; omega), List.getElem?_toArray, List.getElem?_toArray]
  by_cases h1 : j < l1.length
  · rw [if_neg (by omega), List.append_assoc, List.append_assoc, List.getElem?_append_left h1, List.getElem?_append_left h1]
  · by_cases h2 : j < l1.length + m'.length
    · rw [if_pos (by omega), List.append_assoc, List.getElem?_append_right (by omega), List.getElem?_append_left (by omega)]
    · rw [if_neg (by omega), List.append_assoc, List.append_assoc, List.getElem?_append_right (by omega), List.getElem?_append_right (by omega), List.getElem?_append_right (by omega), List.getElem?_append_right (by omega), h]
theorem At.mid {w : World} {b : Nat} {t : TypeId} {l1 m l2 : List Value} (h : At w b t (l1 ++ m ++ l2).toArray) : w.rangeAt b l1.length m := fun j v hv => by
  have hj : j < m.length := (List.getElem?_eq_some_iff.1 hv).1
  rw [h.cell, List.getElem?_toArray, List.append_assoc, List.getElem?_append_right (by omega), List.getElem?_append_left (by omega), ← hv]
  congr 1
  omega
theorem At.whole {w : World} {b : Nat} {t : TypeId} {m : List Value} (h : At w b t m.toArray) : w.rangeAt b 0 m := fun j v hv => by
  rw [Nat.zero_add, h.cell, List.getElem?_toArray, hv]
theorem At.cell' {w : World} {b : Nat} {t : TypeId} {m : List Value} (h : At w b t m.toArray) (i : Nat) : w.cell? ⟨b, i, none⟩ = m[i]? := by
  rw [h.cell, List.getElem?_toArray]
theorem At.put1 {w : World} {b : Nat} {t : TypeId} {l1 l2 : List Value} {u : Value} (h : At w b t (l1 ++ [u] ++ l2).toArray) (v : Value) : At (w.setCell ⟨b, l1.length, none⟩ v) b t (l1 ++ [v] ++ l2).toArray := by
  have := At.set h l1.length v
  have e : (l1 ++ [u] ++ l2).toArray.setIfInBounds l1.length v = (l1 ++ [v] ++ l2).toArray := writeAll_mid l1 [u] [v] l2 rfl
  rwa [e] at this
theorem storeMid {w : World} {b : Nat} {t : TypeId} {l1 m l2 : List Value} (h : At w b t (l1 ++ m ++ l2).toArray) (m' : List Value) (hm : m'.length = m.length) :
    At (w.setCells b l1.length m') b t (l1 ++ m' ++ l2).toArray ∧ Only b w (w.setCells b l1.length m') := by
  have hlt := At.lt h
  have e := setCells_block t m' l1.length w b _ h
  rw [writeAll_mid l1 m m' l2 hm] at e
  rw [e]
  refine ⟨by unfold At; simp [hlt], rfl, rfl, rfl, by simp, fun k hk => ?_⟩
  show (w.heap.setIfInBounds b _)[k]? = _
  rw [Array.getElem?_setIfInBounds_ne (by omega)]
section
variable {ops : Array Oper} {rest : List Oper} {op : Oper} {a : Act} {w : World} {Q : Exit → Act → World → Prop} {K : Act → World → Prop}
theorem wp_storeM (ty : TypeId) (x y : Operand) (ho : op.op = .store ty x y) (b : Nat) (t : TypeId) (l1 m l2 : List Value) (h : At w b t (l1 ++ m ++ l2).toArray) (m' : List Value) (hl : m'.length = m.length) (o : Nat) (hb : o = l1.length)
    (hx : a.eval x = .pointer (some ⟨b, o, none⟩)) (hy : a.eval y = .agg m'.toArray) (hi : (Try.prog.info? ty).map (·.size) = some m'.length) (h1 : ∀ v ∈ m', v.oneCell' = true)
    (hk : ∀ w', At w' b t (l1 ++ m' ++ l2).toArray → Only b w w' → K (a.put op.dst undef) w') : Oper.wp Try.prog op a w K Q := by
  subst hb
  obtain ⟨k1, k2⟩ := storeMid h m' hl
  refine wp_store_mid ty x y ho b l1.length m'.toArray hx hy (fun j hj => ?_) (by rw [hi]; simp) (all_oneCell_toArray h1) ?_
  · rw [List.size_toArray] at hj
    rw [h.cell]
    refine ⟨?_, At.frozen h _⟩
    rw [Array.getElem?_eq_getElem (by simp; omega)]
    rfl
  · exact hk _ k1 k2
theorem wpList_storeM (hgd : op.guard = none) (ty : TypeId) (x y : Operand) (ho : op.op = .store ty x y) (b : Nat) (t : TypeId) (l1 m l2 : List Value) (h : At w b t (l1 ++ m ++ l2).toArray) (m' : List Value) (hl : m'.length = m.length) (o : Nat) (hb : o = l1.length)
    (hx : a.eval x = .pointer (some ⟨b, o, none⟩)) (hy : a.eval y = .agg m'.toArray) (hi : (Try.prog.info? ty).map (·.size) = some m'.length) (h1 : ∀ v ∈ m', v.oneCell' = true)
    (hk : ∀ w', At w' b t (l1 ++ m' ++ l2).toArray → Only b w w' → wpList Try.prog ops Q rest (a.put op.dst undef) w') : wpList Try.prog ops Q (op :: rest) a w :=
  wpList_plain hgd fun _ hK => wp_storeM ty x y ho b t l1 m l2 h m' hl o hb hx hy hi h1 fun w' h1 h2 => hK _ _ (hk w' h1 h2)
theorem wp_boxV (ty : TypeId) (x : Operand) (ho : op.op = .box ty x) (cs : Array Value) (hx : a.eval x = .agg cs)
    (hk : K (a.put op.dst (.pointer (some ⟨w.heap.size, 0, none⟩))) (w.alloc (.cells cs ty))) : Oper.wp Try.prog op a w K Q := by
  unfold Oper.wp execOp
  simp only [ho, hx, Sem.run_bind, Sem.run_pure, Result.andThen_ok, show (Instr.box ty (.agg cs)).run Try.prog w = .ok (.pointer (some ⟨w.heap.size, 0, none⟩)) (w.alloc (.cells cs ty)) from rfl]
  exact hk
theorem wpList_boxV (hgd : op.guard = none) (ty : TypeId) (x : Operand) (ho : op.op = .box ty x) (cs : Array Value) (hx : a.eval x = .agg cs)
    (hk : wpList Try.prog ops Q rest (a.put op.dst (.pointer (some ⟨w.heap.size, 0, none⟩))) (w.alloc (.cells cs ty))) : wpList Try.prog ops Q (op :: rest) a w :=
  wpList_plain hgd fun _ hK => wp_boxV ty x ho cs hx (hK _ _ hk)
theorem run_allocV (ty : TypeId) (z : Array Value) (hz : (zeroValue ty).run Try.prog w = .ok (.agg z) w) (old : Value) : (Instr.alloc ty true old).run Try.prog w = .ok (.pointer (some ⟨w.heap.size, 0, none⟩)) (w.alloc (.cells z ty)) := by
  simp only [Instr.alloc, Sem.run_bind, hz, Result.andThen_ok]
  rfl
theorem wp_allocV (ty : TypeId) (ho : op.op = .alloc ty) (z : Array Value) (hz : (zeroValue ty).run Try.prog w = .ok (.agg z) w)
    (hk : K (a.put op.dst (.pointer (some ⟨w.heap.size, 0, none⟩))) (w.alloc (.cells z ty))) : Oper.wp Try.prog op a w K Q := by
  unfold Oper.wp execOp
  simp only [ho, Sem.run_bind, Sem.run_pure, Result.andThen_ok, run_allocV ty z hz]
  exact hk
theorem wpList_allocV (hgd : op.guard = none) (ty : TypeId) (ho : op.op = .alloc ty) (z : Array Value) (hz : (zeroValue ty).run Try.prog w = .ok (.agg z) w)
    (hk : wpList Try.prog ops Q rest (a.put op.dst (.pointer (some ⟨w.heap.size, 0, none⟩))) (w.alloc (.cells z ty))) : wpList Try.prog ops Q (op :: rest) a w :=
  wpList_plain hgd fun _ hK => wp_allocV ty ho z hz (hK _ _ hk)
end
end Go.Proofs.Ytdbeedhedjhamaa.cor
