/- A region that draws its order, by an invariant over which of its operations have come up. -/
import Derived.Test.YtmemdmjfccepgaaClsFns
import Derived.OrdersHeld
namespace Go.Proofs.Ytmemdmjfccepgaa.cls
open Go.RowKit Go.Lib
set_option linter.unusedVariables false
set_option linter.unusedSimpArgs false
set_option linter.unnecessarySimpa false
set_option linter.unusedSectionVars false

section
variable {P : Program} {ops : Array Oper} {Q : Exit → Act → World → Prop} {md : Region.Mode}
theorem getD_of_lt (L : Array Bool) (i : Nat) (h : i < L.size) (b c : Bool) : L.getD i b = L.getD i c := by simp [Array.getD, h]
theorem getD_set (L : Array Bool) (i j : Nat) (b : Bool) (h : i < L.size) : (L.setIfInBounds i true).getD j b = if j = i then true else L.getD j b := by
  by_cases hij : j = i
  · subst hij; simp [Array.getD, h]
  · simp [hij, Array.getD_eq_getD_getElem?, Array.getElem?_setIfInBounds_ne (Ne.symm hij)]
theorem count_set (L : Array Bool) (i : Nat) (h : i < L.size) (hf : L.getD i true = false) : (L.setIfInBounds i true).toList.count false + 1 = L.toList.count false := by
  have e : L[i] = false := by simpa [Array.getD, h] using hf
  have hl : i < L.toList.length := by simpa using h
  have e2 : L.toList[i] = false := by simpa using e
  have hpos : 0 < L.toList.count false := List.count_pos_iff.2 (by rw [← e2]; exact List.getElem_mem hl)
  rw [Array.toList_setIfInBounds, List.count_set hl, e2]
  have e3 : (true == false) = false := rfl
  rw [e3]
  simp only [beq_self_eq_true, if_true]
  have e4 : (if false = true then 1 else 0) = 0 := rfl
  rw [e4]
  omega
theorem all_of_count {L : Array Bool} (h : L.toList.count false = 0) (i : Nat) (hi : i < L.size) : L.getD i true = true := by
  have hm := List.count_eq_zero.1 h
  have : L[i] ≠ false := fun e => hm (by rw [← e]; simp)
  simpa [Array.getD, hi] using this
theorem ready_nil_all {L : Array Bool} (hsz : L.size = ops.size) (hdown : ∀ (i : Nat) (o : Oper), ops[i]? = some o → ∀ e ∈ o.after, e.on < i) (h : Region.ready md ops L = []) :
    ∀ n i, i < n → i < ops.size → L.getD i true = true := by
  intro n
  induction n with
  | zero => intro i hi; omega
  | succ n ih =>
    intro i hi hio
    by_cases hlt : i < n
    · exact ih i hlt hio
    · obtain rfl : i = n := by omega
      cases hL : L.getD i true with
      | true => rfl
      | false =>
        exfalso
        obtain ⟨o, ho⟩ : ∃ o, ops[i]? = some o := ⟨ops[i], by simp [hio]⟩
        have : i ∈ Region.ready md ops L := mem_ready.2 ⟨hL, o, ho, fun e he hb => by
          have hd := hdown i o ho e he
          rw [getD_of_lt L e.on (by omega) false true]
          exact ih e.on (by omega) (by omega)⟩
        rw [h] at this
        cases this
theorem wpAny_inv (I : Array Bool → Act → World → Prop) (hdown : ∀ (i : Nat) (o : Oper), ops[i]? = some o → ∀ e ∈ o.after, e.on < i)
    (hstep : ∀ (L : Array Bool) (a : Act) (w : World) (i : Nat) (o : Oper), I L a w → ops[i]? = some o → L.getD i true = false → (∀ e ∈ o.after, Region.binds md e = true → L.getD e.on false = true) → wpOp P ops Q i (fun a' w' => I (L.setIfInBounds i true) a' w') a w)
    (hend : ∀ (L : Array Bool) (a : Act) (w : World), I L a w → (∀ i, i < ops.size → L.getD i true = true) → Q .normal a w) :
    ∀ (fuel : Nat) (L : Array Bool) (a : Act) (w : World), L.size = ops.size → L.toList.count false ≤ fuel → I L a w → wpAny P md ops Q fuel L a w := by
  intro fuel
  induction fuel with
  | zero =>
    intro L a w hsz hc hI
    have hall := fun i (hi : i < ops.size) => all_of_count (L := L) (by omega) i (by omega)
    refine ⟨?_, hend L a w hI hall⟩
    rw [List.eq_nil_iff_forall_not_mem]
    intro i hi
    obtain ⟨h1, o, ho, _⟩ := mem_ready.1 hi
    rw [hall i (Array.getElem?_eq_some_iff.1 ho).1] at h1
    cases h1
  | succ fuel ih =>
    intro L a w hsz hc hI
    refine ⟨fun h => hend L a w hI fun i hi => ready_nil_all hsz hdown h (i + 1) i (by omega) hi, fun i hi => ?_⟩
    obtain ⟨h1, o, ho, hall⟩ := mem_ready.1 hi
    have hlt : i < L.size := by rw [hsz]; exact (Array.getElem?_eq_some_iff.1 ho).1
    have hcnt := count_set L i hlt h1
    exact wpOp_mono (fun a' w' h => ih _ a' w' (by simpa using hsz) (by omega) h) (hstep L a w i o hI ho h1 hall)
end
end Go.Proofs.Ytmemdmjfccepgaa.cls
