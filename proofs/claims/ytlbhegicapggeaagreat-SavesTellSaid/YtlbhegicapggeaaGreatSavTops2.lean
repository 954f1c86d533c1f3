/- Saves: bytes come in. -/
import Derived.Test.YtlbhegicapggeaaGreatSavTops
import Derived.Test.YtlbhegicapggeaaGreatFilTops2
namespace Go.Proofs.YtlbhegicapggeaaGreat.sav
open Go.ChangeShapes Go.WideShapes Go.ChangeAt Go.RowKit Go.Deep Go.Lib fil
set_option linter.unusedVariables false
set_option linter.unusedSimpArgs false
set_option linter.unnecessarySimpa false
set_option linter.unusedSectionVars false
section
variable {H : Type} {enc : TypeId × Value → H} {W : World} {base : Nat} {v : Value} {d : DataW H} {p : List MemPlace}
set_option maxRecDepth 100000 in
theorem open_bytes (hv : Value.okWide Tryz.prog W .any base 23 v) (h : DataW.Trod enc Tryz.prog W 0 (fun _ => true) true 23 v d p) :
    (∃ A n c us, v = .slice A n c ∧ n = (us : List UInt8).length ∧ n ≤ 9223372036854775807 ∧ LRd W 0 W.heap.size A (bv us)) ∧ (∀ x ∈ p, x.block < W.heap.size) := by
  obtain ⟨A, n, c, rfl⟩ := okWide_slice Tryz.underlying23 hv
  refine ⟨?_, by obtain ⟨m, hm⟩ := h; exact DataW.trod_lt m _ _ _ hm⟩
  obtain ⟨fuel, hf⟩ := h
  obtain ⟨A', n', c', us, hcs, h1, h2, h3, h4⟩ := bytes_in hf
  simp [Value.cells] at hcs
  obtain ⟨rfl, rfl, rfl⟩ := hcs
  exact ⟨_, _, _, us, rfl, h1, by unfold maxLen at h3; omega, h4⟩
end
end Go.Proofs.YtlbhegicapggeaaGreat.sav
