/- Marks: what stands while a law runs; operations of regions that draw their order. -/
import Derived.Test.YtdbeedhedjhamaaMrkSet
import Derived.Test.YtdbeedhedjhamaaHeld
import Derived.StillTailTactics
namespace Go.Proofs.Ytdbeedhedjhamaa.mrk
open Go.RowKit Go.Lib pce sps
set_option linter.unusedVariables false
set_option linter.unusedSimpArgs false
set_option linter.unnecessarySimpa false
set_option linter.unusedSectionVars false

section
variable {P : Program} {md : Region.Mode} {ops : List Oper} {Q : Exit → Act → World → Prop} {S : World → Prop} {fuel : Nat} {listed : Array Bool} {a : Act} {w : World}
theorem held_two {i j : Nat} {oi oj : Oper} (hr : Region.ready md ops.toArray listed = [i, j]) (hi : ops[i]? = some oi) (hj : ops[j]? = some oj)
    (h1 : ∀ K' : Act → World → Prop, Shut (∀ a w, S w → (S w → wpAnyH P md ops.toArray Q S fuel (listed.setIfInBounds i true) a w) → K' a w) → if Region.wanted oi (yielded ops.toArray a.tmps) = true then Oper.wp P oi a w K' Q else K' (a.put oi.dst undef) w)
    (h2 : ∀ K' : Act → World → Prop, Shut (∀ a w, S w → (S w → wpAnyH P md ops.toArray Q S fuel (listed.setIfInBounds j true) a w) → K' a w) → if Region.wanted oj (yielded ops.toArray a.tmps) = true then Oper.wp P oj a w K' Q else K' (a.put oj.dst undef) w) :
    wpAnyH P md ops.toArray Q S (fuel + 1) listed a w :=
  wpAnyH_ready hr (by simp) (AllReadyH.cons (by simpa using hi) h1 (AllReadyH.cons (by simpa using hj) h2 AllReadyH.nil))
end
section
variable {ops : Array Oper} {S : World → Prop} {op : Oper} {a : Act} {w : World} {K : Act → World → Prop} {Q : Exit → Act → World → Prop}
/-- A load of marks, in every world that S allows. -/
theorem yields_arr (hw : Region.wanted op (yielded ops a.tmps) = true) (x : Operand) (ho : op.op = .load 36 x) (b : Nat) (hx : a.eval x = .pointer (some ⟨b, 0, none⟩)) (f : Nat → Int) (hS : ∀ W, S W → Arr W b f) : YieldsIf Try.prog ops S op (.agg (arr f)) a :=
  .inl ⟨hw, fun W hW => by
    unfold execOp
    simp only [ho, hx, Sem.run_bind, Sem.run_pure, Result.andThen_ok, run_loadAtA (hS W hW)]⟩
theorem yields_eq (hw : Region.wanted op (yielded ops a.tmps) = true) (x y : Operand) (ty : TypeId) (ho : op.op = .binOp .eql 36 x y ty) (f : Nat → Int) (hx : a.eval x = .agg (arr f)) (hy : a.eval y = .agg (arr f)) : YieldsIf Try.prog ops S op (.bool true) a :=
  .inl ⟨hw, fun W hW => by
    unfold execOp
    simp only [ho, hx, hy, Sem.run_bind, run_guardA, binOp, run_eqA, Sem.run_pure, Result.andThen_ok]⟩
theorem wp_allocA (ho : op.op = .alloc 36)
    (hk : ∀ w', w'.heap.size = w.heap.size + 1 → Arr w' w.heap.size noM → Below w.heap.size w w' → K (a.put op.dst (.pointer (some ⟨w.heap.size, 0, none⟩))) w') : Oper.wp Try.prog op a w K Q := by
  unfold Oper.wp execOp
  simp only [ho, Sem.run_bind, Sem.run_pure, Result.andThen_ok, run_allocA]
  exact hk _ (by simp) (arr_new w noM) ((Below.refl _ _).alloc (Nat.le_refl _) _)
/-- make of a list of texts. -/
theorem wp_make (l c : Operand) (ho : op.op = .makeSlice 22 l c) (n : Nat) (hl : a.eval l = .int .i64 (n : Int)) (hc : a.eval c = .int .i64 (n : Int)) (hn : n ≤ 100000)
    (hk : ∀ B w', B = some ⟨w.heap.size, 0, none⟩ → Below w.heap.size w w' → K (a.put op.dst (.slice B n n)) w') : Oper.wp Try.prog op a w K Q := by
  obtain ⟨i0, hi, hz0, hz1, hz2⟩ := info_parts info9
  have hml : (1000000 : Nat) ≤ maxLen := by unfold maxLen; omega
  obtain ⟨w', hrun, r1, r2⟩ := run_make_full (P := Try.prog) w w.heap.size 22 9 i0 (.string ⟨#[]⟩) 1 Try.underlying22 hi hz0 hz1 .i64 .i64 n (by rw [hz2]; omega) (by omega) (Nat.le_refl _)
  unfold Oper.wp
  simp [execOp, ho, hl, hc, hrun, Result.andThen]
  exact hk _ w' rfl ((Below.refl w.heap.size w).grown r2 (Nat.le_refl _) (fun k e => by cases e))
end
/-- While the laws run: what came in, in block w.heap.size; marks of one's own, in block bA. -/
structure Sts (w : World) (f g : Nat → Int) (bA : Nat) (W : World) : Prop where
  below : Below w.heap.size w W
  m : Arr W w.heap.size f
  a : Arr W bA g
  lt : w.heap.size < bA
section
variable {w W W' : World} {f g h : Nat → Int} {bA c : Nat}
theorem Sts.next (H : Sts w f g bA W) (hB : Below W.heap.size W W') : Sts w f g bA W' := ⟨H.below.trans (hB.mono H.below.size), H.m.all hB, H.a.all hB, H.lt⟩
theorem Sts.drew (H : Sts w f g bA W) : Sts w f g bA W.drew := ⟨below_drew H.below, H.m, H.a, H.lt⟩
theorem Sts.only (H : Sts w f g bA W) (hO : Only c W W') (h1 : bA < c) : Sts w f g bA W' := ⟨H.below.trans (hO.below (by have := H.lt; omega)), H.m.only hO (by have := H.lt; omega), H.a.only hO (by omega), H.lt⟩
theorem Sts.turn (H : Sts w f g bA W) (hO : Only bA W W') (hA : Arr W' bA h) : Sts w f h bA W' := ⟨H.below.trans (hO.below (by have := H.lt; omega)), H.m.only hO (by have := H.lt; omega), hA, H.lt⟩
end
/-- The same, and marks behind a splice in block bB. -/
structure Duo (w : World) (f g : Nat → Int) (bA bB : Nat) (h : Nat → Int) (W : World) : Prop where
  s : Sts w f g bA W
  x : Arr W bB h
section
variable {w W W' : World} {f g h : Nat → Int} {bA bB : Nat}
theorem Duo.next (H : Duo w f g bA bB h W) (hB : Below W.heap.size W W') : Duo w f g bA bB h W' := ⟨H.s.next hB, H.x.all hB⟩
theorem Duo.drew (H : Duo w f g bA bB h W) : Duo w f g bA bB h W.drew := ⟨H.s.drew, H.x⟩
theorem Duo.alloc {o : Obj} (H : Duo w f g bA bB h W) (hv : W' = W.alloc o) : Duo w f g bA bB h W' := by subst hv; exact H.next ((Below.refl _ _).alloc (Nat.le_refl _) _)
end
/-- Where the cells of one splice lie, as long as nothing below turns. -/
theorem cut_cells {w : World} {A : Option Addr} {ts : List Ct} (h : Cuts w (· < w.heap.size) A ts) {i : Nat} {t : Ct} (hi : ts[i]? = some t) :
    ∃ b off, A = some ⟨b, off, none⟩ ∧ ∀ W, Below w.heap.size w W → W.cell? ⟨b, off + i * 3, none⟩ = some (.int .i64 t.a) ∧ W.cell? ⟨b, off + i * 3 + 1, none⟩ = some (.int .i64 t.d) ∧ W.cell? ⟨b, off + i * 3 + 2, none⟩ = some (.slice t.A t.ins.length t.c) := by
  obtain ⟨b, off, e, _⟩ := h.at hi
  refine ⟨b, off, e, fun W hB => ?_⟩
  obtain ⟨b', off', e', g⟩ := (h.below hB).at hi
  rw [e] at e'
  injection e' with e'
  injection e' with e1 e2
  subst e1 e2
  exact g
end Go.Proofs.Ytdbeedhedjhamaa.mrk
