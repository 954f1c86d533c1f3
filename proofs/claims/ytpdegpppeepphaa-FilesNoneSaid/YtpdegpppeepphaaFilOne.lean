/- Files: one thing to do comes in, by value. -/
import Derived.Test.YtpdegpppeepphaaFilTops
namespace Go.Proofs.Ytpdegpppeepphaa.fil
open Go.ChangeShapes Go.WideShapes Go.ChangeAt Go.RowKit Go.Deep Go.Lib
set_option linter.unusedVariables false
set_option linter.unusedSimpArgs false

set_option maxRecDepth 100000 in
theorem open_do {H : Type} {enc : TypeId × Value → H} {W : World} {base : Nat} {v : Value} {d : DataW H} {p : List MemPlace}
    (hv : Value.okWide Try.prog W .any base 33 v) (h : DataW.Trod enc Try.prog W 0 (fun _ => true) true 33 v d p) :
    (∃ t : Dt, v = t.val ∧ t.Ok ∧ LRd W 0 W.heap.size t.kA (iv t.k)) ∧ (∀ x ∈ p, x.block < W.heap.size) := by
  obtain ⟨cs, rfl, hsz, _⟩ : ∃ cs, v = .agg cs ∧ cs.size = Try.prog.cellsOf 33 ∧ Row.okWide Try.prog W .any base 33 cs := by
    simpa [Value.okWide, Try.underlying33] using hv
  refine ⟨?_, by obtain ⟨m, hm⟩ := h; exact DataW.trod_lt m _ _ _ hm⟩
  obtain ⟨fuel, hf⟩ := h
  obtain ⟨t, hc, hok, hk⟩ := do_in hf
  refine ⟨t, ?_, hok, hk⟩
  have e : cs.toList = t.cells := by simpa [Value.cells] using hc
  have e2 : cs = t.cells.toArray := by rw [← e]
  rw [e2]
  rfl
end Go.Proofs.Ytpdegpppeepphaa.fil
