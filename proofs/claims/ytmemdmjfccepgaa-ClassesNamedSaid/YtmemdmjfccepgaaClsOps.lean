/- Classes: single operations, as a region that draws its order does them. -/
import Derived.Test.YtmemdmjfccepgaaClsReg
namespace Go.Proofs.Ytmemdmjfccepgaa.cls
open Go.RowKit Go.Lib
open Go.ChangeMaps (setBlock)
set_option linter.unusedVariables false
set_option linter.unusedSimpArgs false
set_option linter.unnecessarySimpa false
set_option linter.unusedSectionVars false

theorem FnIs.cells {n : Nat} {w : World} {v : Value} {f : Nat → Bool} (h : FnIs n w v f) : v.cells = #[v] := by obtain ⟨k, cs, rfl, _⟩ := h; rfl
theorem infF : (Try.prog.info? 35).map (fun i => (i.zero, i.size)) = some (some .nilFunc, 1) := by kernel_rfl
theorem mk2 : (Array.map (fun x => Value.nilFunc.cells[x % Value.nilFunc.cells.size]!) (Array.range 2)) = #[.nilFunc, .nilFunc] := by kernel_rfl
theorem mk3 : (Array.map (fun x => Value.nilFunc.cells[x % Value.nilFunc.cells.size]!) (Array.range 3)) = #[.nilFunc, .nilFunc, .nilFunc] := by kernel_rfl
theorem run_row2 (v1 v2 : Value) (h1 : v1.cells = #[v1]) (h2 : v2.cells = #[v2]) (W : World) :
    (Instr.buildSlice 58 2 #[(0, v1), (1, v2)]).run Try.prog W = .ok (.slice (some ⟨W.heap.size, 0, none⟩) 2 2) (W.alloc (.cells #[v1, v2] 35)) := by
  have hi := infF
  cases hie : Try.prog.info? 35 with
  | none => simp [hie] at hi
  | some ie =>
    simp only [hie, Option.map_some, Option.some.injEq, Prod.mk.injEq] at hi
    exact run_buildSlice W _ _ 2 _ #[v1, v2] ie .nilFunc Try.underlying58 hie hi.1 (by rw [hi.2]; decide) (by rw [hi.2]; decide) (by rw [hi.2]; simp [Instr.fill, h1, h2]; rw [mk2]; rfl)
theorem run_row3 (v1 v2 v3 : Value) (h1 : v1.cells = #[v1]) (h2 : v2.cells = #[v2]) (h3 : v3.cells = #[v3]) (W : World) :
    (Instr.buildSlice 58 3 #[(0, v1), (1, v2), (2, v3)]).run Try.prog W = .ok (.slice (some ⟨W.heap.size, 0, none⟩) 3 3) (W.alloc (.cells #[v1, v2, v3] 35)) := by
  have hi := infF
  cases hie : Try.prog.info? 35 with
  | none => simp [hie] at hi
  | some ie =>
    simp only [hie, Option.map_some, Option.some.injEq, Prod.mk.injEq] at hi
    exact run_buildSlice W _ _ 3 _ #[v1, v2, v3] ie .nilFunc Try.underlying58 hie hi.1 (by rw [hi.2]; decide) (by rw [hi.2]; decide) (by rw [hi.2]; simp [Instr.fill, h1, h2, h3]; rw [mk3]; rfl)

section
variable {ops : Array Oper} {rest : List Oper} {op : Oper} {a : Act} {w : World} {Q : Exit → Act → World → Prop}
theorem wpList_row2 (hgd : op.guard = none) (x y : Operand) (ho : op.op = .buildSlice 58 2 #[(0, x), (1, y)]) (v1 v2 : Value) (hx : a.eval x = v1) (hy : a.eval y = v2) (h1 : v1.cells = #[v1]) (h2 : v2.cells = #[v2])
    (hk : wpList Try.prog ops Q rest (a.put op.dst (.slice (some ⟨w.heap.size, 0, none⟩) 2 2)) (w.alloc (.cells #[v1, v2] 35))) : wpList Try.prog ops Q (op :: rest) a w :=
  wpList_plain hgd fun _ hK => by
    have e : (#[(0, x), (1, y)].map fun (i, x) => (i, a.eval x)) = #[(0, v1), (1, v2)] := by simp [hx, hy]
    unfold Oper.wp execOp
    simp only [ho, e, Sem.run_bind, run_row2 v1 v2 h1 h2 w, Result.andThen_ok]
    exact hK _ _ hk
end

theorem run_storeF (k : FuncId) (cs : Array Value) (w : World) : (store ⟨w.heap.size, 0, none⟩ (.func (.func k) #[] cs)).run Try.prog (w.alloc (.cells #[.nilFunc] 35)) = .ok () (w.alloc (.cells #[.func (.func k) #[] cs] 35)) := by
  have hb := new_at w (.cells #[.nilFunc] 35)
  rw [run_store _ _ _ _ _ rfl]
  have h1 : (w.alloc (.cells #[.nilFunc] 35)).cell? ⟨w.heap.size, 0, none⟩ = some .nilFunc := by
    unfold World.cell?
    simp only [hb]
    rfl
  have h2 : (w.alloc (.cells #[.nilFunc] 35)).frozen? ⟨w.heap.size, 0, none⟩ = false := by
    unfold World.frozen?
    simp only [hb]
    rfl
  rw [h1, h2]
  show Result.ok () _ = _
  rw [World.setCell_alloc_at _ _ _ _ _ rfl]
  rfl

section
variable {ρ : Operand → Value} {o : Oper} {w w' : World} {v : Value}
theorem run_loadF {b : Nat} {u : Value} (hc : w.heap[b]? = some (.cells #[u] 35)) : (Instr.loadAt 35 (.pointer (some ⟨b, 0, none⟩))).run Try.prog w = .ok u w := by
  have h : w.cell? ⟨b, 0, none⟩ = some u := by
    unfold World.cell?
    simp only [hc]
    rfl
  have ha : (isAgg 35).run Try.prog w = .ok false w := by kernel_rfl
  simp [Instr.loadAt, Instr.sureAddr, loadVar, Sem.run_bind, ha, go_sem, h]
theorem execOp_load {x : Operand} {t : TypeId} (ho : o.op = .load t x) (h : (Instr.loadAt t (ρ x)).run Try.prog w = .ok v w) : (execOp ρ o).run Try.prog w = .ok (.value v) w := by
  unfold execOp
  simp only [ho, Sem.run_bind, h, Result.andThen_ok]
  rfl
theorem execOp_move {x : Operand} (ho : o.op = .move x) : (execOp ρ o).run Try.prog w = .ok (.value (ρ x)) w := by
  unfold execOp
  simp only [ho]
  rfl
theorem execOp_assign {x : Operand} (ho : o.op = .assign x) : (execOp ρ o).run Try.prog w = .ok (.value (ρ x)) w := by
  unfold execOp
  simp only [ho]
  rfl
theorem execOp_row {t : TypeId} {k : Nat} {ps : Array (Nat × Operand)} (ho : o.op = .buildSlice t k ps) {qs : Array (Nat × Value)} (hq : (ps.map fun (i, x) => (i, ρ x)) = qs) (h : (Instr.buildSlice t k qs).run Try.prog w = .ok v w') : (execOp ρ o).run Try.prog w = .ok (.value v) w' := by
  subst hq
  unfold execOp
  simp only [ho, Sem.run_bind, h, Result.andThen_ok]
  rfl
theorem execOp_map {t : TypeId} (ho : o.op = .makeMap t none) : (execOp ρ o).run Try.prog w = .ok (.value (.map (some w.heap.size))) (w.alloc (.map #[] 0)) := by
  unfold execOp
  simp [ho, @run_makeMap Try.prog, Sem.run_bind]
theorem execOp_ins {t : TypeId} {m k x : Operand} (ho : o.op = .insert t m k x) (h : (Instr.mapUpdate t (ρ m) (ρ k) (ρ x)).run Try.prog w = .ok () w') : (execOp ρ o).run Try.prog w = .ok .skip w' := by
  unfold execOp
  simp only [ho, Sem.run_bind, h, Result.andThen_ok]
  rfl
theorem execOp_fn {k : FuncId} {c1 c2 : Operand} (ho : o.op = .makeFunc (.func k) #[] #[c1, c2]) : (execOp ρ o).run Try.prog w = .ok (.value (.func (.func k) #[] #[ρ c1, ρ c2])) w := by
  unfold execOp
  simp [ho, go_sem]
theorem execOp_span {x y : Value} {ts : Array TypeId} (ho : o.op = .call { callee := .value (.func 29), args := #[.const x, .const y], argTypes := ts }) (hρ : ∀ c, ρ (.const c) = c) (hf : ρ (.func 29) = .func (.func 29) #[] #[]) :
    (execOp ρ o).run Try.prog w = .ok (.enter 29 #[x, y]) w := by
  unfold execOp
  simp [ho, resolve, hρ, hf, go_sem]
theorem execOp_one {x : Operand} {ts : Array TypeId} (ho : o.op = .call { callee := .value (.func 30), args := #[x], argTypes := ts }) (hf : ρ (.func 30) = .func (.func 30) #[] #[]) :
    (execOp ρ o).run Try.prog w = .ok (.enter 30 #[ρ x]) w := by
  unfold execOp
  simp [ho, resolve, hf, go_sem]
end

end Go.Proofs.Ytmemdmjfccepgaa.cls
