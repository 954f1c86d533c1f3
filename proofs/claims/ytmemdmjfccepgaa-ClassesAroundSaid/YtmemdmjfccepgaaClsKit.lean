/- Arrays of 256 bools: held against each other; operations whose guard is met. -/
import Derived.Test.YtmemdmjfccepgaaClsParse2
import Derived.ChangeKeysEq
import Derived.Laws.StructEq
namespace Go.Proofs.Ytmemdmjfccepgaa.cls
open Go.RowKit Go.Lib
set_option linter.unusedVariables false
set_option linter.unusedSimpArgs false
set_option linter.unnecessarySimpa false
set_option linter.unusedSectionVars false

theorem infB : (Try.prog.info? 4).map (·.size) = some 1 := by kernel_rfl
theorem run_items (d : Nat) (f : Nat → Bool) (w : World) : ∀ (is : List Nat), (∀ i ∈ is, i < 256) → (Op.eqItems (d + 1) 4 1 (arr f) (arr f) is).run Try.prog w = .ok true w
  | [], _ => by simp [Op.eqItems]
  | i :: is, h => by
    have ih := run_items d f w is fun j hj => h j (by simp [hj])
    have ha : (isAgg 4).run Try.prog w = .ok false w := by kernel_rfl
    have hg := arr_get f i (h i (by simp))
    have hp : (part 4 (arr f) (i * 1)).run Try.prog w = .ok (.bool (f i)) w := by simp [part, Sem.run_bind, ha, hg, Result.andThen]
    simp only [Op.eqItems, Sem.run_bind, hp, Result.andThen_ok, run_equalIn_bool' w d 4 _ _ Try.underlying4]
    simpa using ih
theorem run_eqA (f : Nat → Bool) (w : World) : (Op.equal 22 (.agg (arr f)) (.agg (arr f))).run Try.prog w = .ok true w := by
  cases hi : Try.prog.info? 4 with
  | none => have := infB; rw [hi] at this; cases this
  | some i =>
    have hs : Try.prog.cellsOf 4 = 1 := by kernel_rfl
    unfold Op.equal Op.maxDepth
    rw [run_equalIn_array w 9999 (arr f) (arr f) und hi, hs]
    exact run_items 9998 f w _ fun j hj => List.mem_range.1 hj
theorem run_guardA (x y : Operand) (f g : Nat → Bool) (w : World) : (eqGuard .eql 22 x y (.agg (arr f)) (.agg (arr g))).run Try.prog w = .ok () w := run_eqGuard_agg w .eql 22 x y (arr f) (arr g) (by kernel_rfl)
section
variable {ops : Array Oper} {rest : List Oper} {op : Oper} {a : Act} {w : World} {Q : Exit → Act → World → Prop}
theorem wpList_eqM (hw : Region.wanted op (yielded ops a.tmps) = true) (x y : Operand) (ty : TypeId) (ho : op.op = .binOp .eql 22 x y ty) (f : Nat → Bool) (hx : a.eval x = .agg (arr f)) (hy : a.eval y = .agg (arr f))
    (hk : wpList Try.prog ops Q rest (a.put op.dst (.bool true)) w) : wpList Try.prog ops Q (op :: rest) a w := by
  refine wpList_step fun K hK => ?_
  simp only [hw, if_true]
  unfold Oper.wp execOp
  simp only [ho, hx, hy, Sem.run_bind, run_guardA, binOp, run_eqA, Sem.run_pure, Result.andThen_ok]
  exact hK _ _ hk
theorem wpList_loadM (hw : Region.wanted op (yielded ops a.tmps) = true) (x : Operand) (ho : op.op = .load 22 x) (b : Nat) (hx : a.eval x = .pointer (some ⟨b, 0, none⟩)) (f : Nat → Bool) (h : Arr w b f)
    (hk : wpList Try.prog ops Q rest (a.put op.dst (.agg (arr f))) w) : wpList Try.prog ops Q (op :: rest) a w := by
  refine wpList_step fun K hK => ?_
  simp only [hw, if_true]
  unfold Oper.wp execOp
  simp only [ho, hx, Sem.run_bind, Sem.run_pure, Result.andThen_ok, run_loadAtA h]
  exact hK _ _ hk
theorem wpList_buildM (hw : Region.wanted op (yielded ops a.tmps) = true) (ho : op.op = .build 22 #[])
    (hk : wpList Try.prog ops Q rest (a.put op.dst (.agg (arr noB))) w) : wpList Try.prog ops Q (op :: rest) a w := by
  refine wpList_step fun K hK => ?_
  simp only [hw, if_true]
  unfold Oper.wp execOp
  simp only [ho, Array.map_empty, Sem.run_bind, run_buildA, Result.andThen_ok]
  exact hK _ _ hk
end
end Go.Proofs.Ytmemdmjfccepgaa.cls
