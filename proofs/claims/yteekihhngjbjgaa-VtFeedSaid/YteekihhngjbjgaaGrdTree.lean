/- Grids: steps of a region that draws its order, by hand: two or three operations that may come up; a grid's block made, a grid laid down. -/
import Derived.Test.YteekihhngjbjgaaGrdDoes
import Derived.Test.YteekihhngjbjgaaHeld
import Derived.Deep.DeepCutAuto
import Derived.Deep.CutRange
namespace Go.Proofs.Yteekihhngjbjgaa.grd
open Go.RowKit Go.Lib
set_option linter.unusedVariables false
set_option linter.unusedSimpArgs false
set_option linter.unnecessarySimpa false
set_option linter.unusedSectionVars false

section
variable {P : Program} {md : Region.Mode} {ops : List Oper} {Q : Exit → Act → World → Prop} {S : World → Prop} {fuel : Nat} {listed : Array Bool} {a : Act} {w : World}
theorem held_two {i j : Nat} {oi oj : Oper} (hr : Region.ready md ops.toArray listed = [i, j]) (hi : ops[i]? = some oi) (hj : ops[j]? = some oj)
    (h1 : ∀ K' : Act → World → Prop, Shut (∀ a w, S w → (S w → wpAnyH P md ops.toArray Q S fuel (listed.setIfInBounds i true) a w) → K' a w) → if Region.wanted oi (yielded ops.toArray a.tmps) = true then Oper.wp P oi a w K' Q else K' (a.put oi.dst undef) w)
    (h2 : ∀ K' : Act → World → Prop, Shut (∀ a w, S w → (S w → wpAnyH P md ops.toArray Q S fuel (listed.setIfInBounds j true) a w) → K' a w) → if Region.wanted oj (yielded ops.toArray a.tmps) = true then Oper.wp P oj a w K' Q else K' (a.put oj.dst undef) w) :
    wpAnyH P md ops.toArray Q S (fuel + 1) listed a w :=
  wpAnyH_ready hr (by simp) (AllReadyH.cons (by simpa using hi) h1 (AllReadyH.cons (by simpa using hj) h2 AllReadyH.nil))
theorem held_three {i j k : Nat} {oi oj ok : Oper} (hr : Region.ready md ops.toArray listed = [i, j, k]) (hi : ops[i]? = some oi) (hj : ops[j]? = some oj) (hk : ops[k]? = some ok)
    (h1 : ∀ K' : Act → World → Prop, Shut (∀ a w, S w → (S w → wpAnyH P md ops.toArray Q S fuel (listed.setIfInBounds i true) a w) → K' a w) → if Region.wanted oi (yielded ops.toArray a.tmps) = true then Oper.wp P oi a w K' Q else K' (a.put oi.dst undef) w)
    (h2 : ∀ K' : Act → World → Prop, Shut (∀ a w, S w → (S w → wpAnyH P md ops.toArray Q S fuel (listed.setIfInBounds j true) a w) → K' a w) → if Region.wanted oj (yielded ops.toArray a.tmps) = true then Oper.wp P oj a w K' Q else K' (a.put oj.dst undef) w)
    (h3 : ∀ K' : Act → World → Prop, Shut (∀ a w, S w → (S w → wpAnyH P md ops.toArray Q S fuel (listed.setIfInBounds k true) a w) → K' a w) → if Region.wanted ok (yielded ops.toArray a.tmps) = true then Oper.wp P ok a w K' Q else K' (a.put ok.dst undef) w) :
    wpAnyH P md ops.toArray Q S (fuel + 1) listed a w :=
  wpAnyH_ready hr (by simp) (AllReadyH.cons (by simpa using hi) h1 (AllReadyH.cons (by simpa using hj) h2 (AllReadyH.cons (by simpa using hk) h3 AllReadyH.nil)))
end
theorem zer24 (w : World) : (zeroValue 34).run Try.prog w = .ok (.agg #[.int .i64 0, .int .i64 0, .slice none 0 0, .int .i64 0, .int .i64 0]) w := by kernel_rfl
theorem alloc24 (w : World) (old : Value) : (Instr.alloc 34 true old).run Try.prog w = .ok (.pointer (some ⟨w.heap.size, 0, none⟩)) (w.alloc (.cells #[.int .i64 0, .int .i64 0, .slice none 0 0, .int .i64 0, .int .i64 0] 34)) := by
  simp only [Instr.alloc, Sem.run_bind, zer24, Result.andThen_ok]
  rfl
section
variable {op : Oper} {a : Act} {w : World} {K : Act → World → Prop} {Q : Exit → Act → World → Prop}
theorem wp_allocG (ho : op.op = .alloc 34)
    (hk : ∀ w', At w' w.heap.size 34 #[.int .i64 0, .int .i64 0, .slice none 0 0, .int .i64 0, .int .i64 0] → Below w.heap.size w w' → w.heap.size + 1 ≤ w'.heap.size → K (a.put op.dst (.pointer (some ⟨w.heap.size, 0, none⟩))) w') : Oper.wp Try.prog op a w K Q := by
  unfold Oper.wp execOp
  simp only [ho, Sem.run_bind, Sem.run_pure, Result.andThen_ok, alloc24]
  exact hk _ (At.new _ _ _) ((Below.refl _ _).alloc (Nat.le_refl _) _) (by simp)
theorem wp_storeG (x y : Operand) (ho : op.op = .store 34 x y) (b : Nat) (x0 x1 x3 x4 : Int) (A : Option Addr) (n c : Nat) (hx : a.eval x = .pointer (some ⟨b, 0, none⟩)) (hy : a.eval y = .agg #[.int .i64 x0, .int .i64 x1, .slice A n c, .int .i64 x3, .int .i64 x4]) (cs : Array Value) (h : At w b 34 cs) (hc : cs.size = 5)
    (hk : ∀ w', At w' b 34 #[.int .i64 x0, .int .i64 x1, .slice A n c, .int .i64 x3, .int .i64 x4] → But b w w' → K (a.put op.dst undef) w') : Oper.wp Try.prog op a w K Q := by
  obtain ⟨w', e, h1, h2⟩ := storeG (xs := #[.int .i64 x0, .int .i64 x1, .slice A n c, .int .i64 x3, .int .i64 x4]) h hc rfl (by simp [Value.oneCell'])
  unfold Oper.wp execOp
  simp only [ho, hx, hy, Sem.run_bind, Sem.run_pure, Result.andThen_ok, e]
  exact hk _ h1 h2
end
theorem more_but {b : Nat} {wb W W' : World} (h : More wb.heap.size wb W) (hB : But b W W') (hb : wb.heap.size ≤ b) : More wb.heap.size wb W' := Below.trans h (hB.below hb)
theorem Gr.but {b n c lo hi : Nat} {A : Option Addr} {ls : List (List UInt8)} {W W' : World} (h : Gr W lo hi A n c ls) (hB : But b W W') (hb : b < lo ∨ hi ≤ b) : Gr W' lo hi A n c ls := h.keep fun k h1 h2 => hB.block k (by omega)
theorem Own.but {b n c lo hi : Nat} {A : Option Addr} {ls : List (List UInt8)} {W W' : World} (h : Own W lo hi A n c ls) (hB : But b W W') (hb : b < lo ∨ hi ≤ b) : Own W' lo hi A n c ls := h.keep fun k h1 h2 => hB.block k (by omega)
end Go.Proofs.Yteekihhngjbjgaa.grd
