/- Marks: what comes in: marks by value. -/
import Derived.Test.YtojcbjificodaaaSplTops
import Derived.Test.YtojcbjificodaaaMrkDoes
namespace Go.Proofs.Ytojcbjificodaaa.mrk
open Go.ChangeShapes Go.WideShapes Go.ChangeAt Go.RowKit Go.Deep Go.Lib pce
set_option linter.unusedVariables false
set_option linter.unusedSimpArgs false
set_option linter.unnecessarySimpa false
set_option linter.unusedSectionVars false

theorem cellsM : Try.prog.cellsOf 27 = 26 := by kernel_rfl
theorem take_one {α : Type} (l : List α) (i : Nat) (h : i < l.length) : ∃ a, (l.drop i).take 1 = [a] ∧ l[i]? = some a := by
  refine ⟨l[i], ?_, List.getElem?_eq_getElem _⟩
  rw [List.drop_eq_getElem_cons h]
  rfl
section
variable {H : Type} {enc : TypeId × Value → H} {W : World} {base : Nat} {v : Value} {d : DataW H} {p : List MemPlace}
set_option maxRecDepth 100000 in
theorem open_marks (hv : Value.okWide Try.prog W .any base 27 v) (h : DataW.Trod enc Try.prog W 0 (fun _ => true) true 27 v d p) :
    (∃ f : Nat → Int, v = .agg (arr f) ∧ Ints f) ∧ (∀ x ∈ p, x.block < W.heap.size) := by
  obtain ⟨cs, rfl, hsz, _⟩ : ∃ cs, v = .agg cs ∧ cs.size = Try.prog.cellsOf 27 ∧ Row.okWide Try.prog W .any base 27 cs := by
    simpa [Value.okWide, und] using hv
  refine ⟨?_, by obtain ⟨m, hm⟩ := h; exact DataW.trod_lt m _ _ _ hm⟩
  rw [cellsM] at hsz
  obtain ⟨l⟩ := cs
  have hl : l.length = 26 := hsz
  obtain ⟨fuel, hf⟩ := h
  have hf' : DataW.trod enc Try.prog W 0 (fun _ => true) true fuel 27 l = some (d, p) := hf
  obtain ⟨xs, m, _, _, _, hxl, hx⟩ := DataW.trod_array und hf'
  have key : ∀ k, k < 26 → ∃ x : Int, l[k]? = some (.int .i64 x) ∧ -9223372036854775808 ≤ x ∧ x ≤ 9223372036854775807 := by
    intro k hk
    have h1 := hx k hk
    rw [cells3, List.getElem?_eq_getElem (by omega)] at h1
    obtain ⟨a, e, ha⟩ := take_one l (k * 1) (by omega)
    rw [e] at h1
    obtain ⟨a0, e0, _, w0⟩ := DataW.trod_int Try.underlying3 h1
    injection e0 with e0 _
    subst e0
    obtain ⟨b1, b2⟩ := int_i64 w0
    exact ⟨a0, by rw [Nat.mul_one] at ha; exact ha, b1, b2⟩
  refine ⟨fun k => match l[k]? with | some (.int _ x) => x | _ => 0, ?_, fun k hk => ?_⟩
  · have e : l = arrL (fun k => match l[k]? with | some (.int _ x) => x | _ => 0) := by
      apply List.ext_getElem?
      intro k
      by_cases hk : k < 26
      · obtain ⟨x, hx, _⟩ := key k hk
        rw [arrL_get _ k hk]
        simp [hx]
      · rw [List.getElem?_eq_none (by omega), List.getElem?_eq_none (by rw [arrL_len]; omega)]
    unfold arr
    rw [← e]
  · obtain ⟨x, hx, b1, b2⟩ := key k hk
    show _ ≤ (match l[k]? with | some (.int _ x) => x | _ => 0) ∧ (match l[k]? with | some (.int _ x) => x | _ => 0) ≤ _
    rw [hx]
    exact ⟨b1, b2⟩
end
end Go.Proofs.Ytojcbjificodaaa.mrk
