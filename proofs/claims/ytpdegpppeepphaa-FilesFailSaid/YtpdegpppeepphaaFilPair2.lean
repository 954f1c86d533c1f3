/- Files: two lists of things to do come in, by value. -/
import Derived.Test.YtpdegpppeepphaaFilPair
namespace Go.Proofs.Ytpdegpppeepphaa.fil
open Go.ChangeShapes Go.WideShapes Go.ChangeAt Go.RowKit Go.Deep Go.Lib
set_option linter.unusedVariables false
set_option linter.unusedSimpArgs false
set_option linter.unnecessarySimpa false
set_option linter.unusedSectionVars false

theorem cellsDos2 : Try.prog.cellsOf 59 = 2 := by kernel_rfl
theorem cellsDos : Try.prog.cellsOf 22 = 1 := by kernel_rfl
section
variable {H : Type} {enc : TypeId × Value → H} {W : World} {base : Nat} {v : Value} {d : DataW H} {p : List MemPlace}
set_option maxRecDepth 100000 in
theorem dos_in {fuel : Nat} {cs : List Value} {x : DataW H × List MemPlace} (h : DataW.trod enc Try.prog W 0 (fun _ => true) true fuel 22 cs = some x) :
    ∃ A n c ds, cs = [.slice A n c] ∧ n = (ds : List Dt).length ∧ n ≤ 9223372036854775807 ∧ Dos W W.heap.size A ds := by
  rcases open_slice Try.underlying22 h with ⟨hcs, _⟩ | ⟨⟨b, off, spot⟩, n, cap, m, fu, D, Pl, hcs, _, hl, hm, hmm, _, hi⟩
  · exact ⟨none, 0, 0, [], hcs, rfl, by omega, fun h0 => absurd h0 (by decide), by simp, by simp⟩
  · rw [cellsDo] at hi
    have hmc : m = cap := by simpa using hmm
    obtain ⟨ds, hdl, hds⟩ := each_list (fun i (t : Dt) => (∀ j u, t.cells[j]? = some u → W.cell? ((⟨b, off, spot⟩ : Addr).add (i * 6 + j)) = some u) ∧ t.Ok ∧ LRd W 0 W.heap.size t.kA (iv t.k)) n (fun i hin => by
      obtain ⟨cs', hc, ht'⟩ := hi i (by omega)
      obtain ⟨t, rfl, hok, hk⟩ := do_in ht'
      obtain ⟨_, _, hat⟩ := World.cells?_some hc
      refine ⟨t, fun j u hj => ?_, hok, hk⟩
      have hj6 : j < 6 := by have := (List.getElem?_eq_some_iff.1 hj).1; simpa [Dt.cells] using this
      rw [← Go.Deep.add_add, hat j hj6, hj])
    refine ⟨_, n, cap, ds, hcs, hdl.symm, by unfold maxLen at hm; omega, fun h0 => ?_, fun t ht => ?_, fun t ht => ?_⟩
    · rw [flat_length, hdl] at h0
      obtain ⟨t0, ht0⟩ : ∃ t, ds[0]? = some t := ⟨ds[0]'(by omega), List.getElem?_eq_getElem _⟩
      have hc0 := (hds 0 t0 ht0).1 0 _ rfl
      have hspot : spot = none := by simpa [Addr.add] using World.cell?_spot hc0
      subst hspot
      have hb := World.block_lt_of_cell? _ _ (by rw [← Go.WideShapes.add_plain]; exact hc0 : W.cell? ⟨b, off + (0 * 6 + 0), none⟩ = _)
      refine ⟨b, off, rfl, Nat.zero_le _, hb, fun j u hj => ?_⟩
      have hj2 : j < ds.length * 6 := by
        have := (List.getElem?_eq_some_iff.1 hj).1
        rw [flat_length] at this; exact this
      obtain ⟨t, ht⟩ : ∃ t, ds[j / 6]? = some t := ⟨ds[j / 6]'(by omega), List.getElem?_eq_getElem _⟩
      have e := flat_get ds (j / 6) (j % 6) t ht (by omega)
      rw [show j / 6 * 6 + j % 6 = j by omega, hj] at e
      have := (hds (j / 6) t ht).1 (j % 6) u e.symm
      rw [show j / 6 * 6 + j % 6 = j by omega] at this
      rw [← Go.WideShapes.add_plain]
      exact this
    · obtain ⟨i, hi', rfl⟩ := List.getElem_of_mem ht
      exact (hds i _ (List.getElem?_eq_getElem hi')).2.2
    · obtain ⟨i, hi', rfl⟩ := List.getElem_of_mem ht
      exact (hds i _ (List.getElem?_eq_getElem hi')).2.1

set_option maxRecDepth 100000 in
theorem open_two (hv : Value.okWide Try.prog W .any base 59 v) (h : DataW.Trod enc Try.prog W 0 (fun _ => true) true 59 v d p) :
    (∃ A0 n0 c0 d0 A1 n1 c1 d1, v = .agg #[.slice A0 n0 c0, .slice A1 n1 c1] ∧ n0 = (d0 : List Dt).length ∧ n0 ≤ 9223372036854775807 ∧ Dos W W.heap.size A0 d0 ∧ n1 = (d1 : List Dt).length ∧ n1 ≤ 9223372036854775807 ∧ Dos W W.heap.size A1 d1) ∧ (∀ x ∈ p, x.block < W.heap.size) := by
  obtain ⟨cs, rfl, hsz, _⟩ : ∃ cs, v = .agg cs ∧ cs.size = Try.prog.cellsOf 59 ∧ Row.okWide Try.prog W .any base 59 cs := by
    simpa [Value.okWide, Try.underlying59] using hv
  rw [cellsDos2] at hsz
  refine ⟨?_, by obtain ⟨m, hm⟩ := h; exact DataW.trod_lt m _ _ _ hm⟩
  obtain ⟨l⟩ := cs
  obtain ⟨c0, c1, rfl⟩ := list2 l hsz
  obtain ⟨fuel, hf⟩ := h
  obtain ⟨y0, y1, m, hx, hy0, hy1⟩ := trod_array2 Try.underlying59 cellsDos hf
  obtain ⟨A0, n0, k0, d0, e0, p0, q0, r0⟩ := dos_in hy0
  obtain ⟨A1, n1, k1, d1, e1, p1, q1, r1⟩ := dos_in hy1
  injection e0 with e0 _
  injection e1 with e1 _
  subst e0 e1
  exact ⟨A0, n0, k0, d0, A1, n1, k1, d1, rfl, p0, q0, r0, p1, q1, r1⟩
end
end Go.Proofs.Ytpdegpppeepphaa.fil
