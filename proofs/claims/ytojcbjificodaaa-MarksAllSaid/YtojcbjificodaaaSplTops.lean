/- Splices: what comes in: a splice by value, a list of them; what the rows' listed variables give. -/
import Derived.Test.YtojcbjificodaaaPceTops
import Derived.Test.YtojcbjificodaaaSplCells
import Derived.Lib.Hide
import Derived.ProofKit
import Derived.OpenShut
namespace Go.Proofs.Ytojcbjificodaaa.sps
open Go.ChangeShapes Go.WideShapes Go.ChangeAt Go.RowKit Go.Deep Go.Lib pce
set_option linter.unusedVariables false
set_option linter.unusedSimpArgs false
set_option linter.unnecessarySimpa false
set_option linter.unusedSectionVars false

theorem cellsS : Try.prog.cellsOf 30 = 3 := by kernel_rfl
theorem nat_u16 {a : Int} (h : (Lit.int .u16 a).wf = true) : ∃ n : Nat, a = n ∧ n < 65536 := by
  simp [Lit.wf, IntKind.min, IntKind.max, IntKind.signed, IntKind.bits] at h
  exact ⟨a.toNat, by omega, by omega⟩
section
variable {H : Type} {enc : TypeId × Value → H} {W : World} {base : Nat} {v : Value} {d : DataW H} {p : List MemPlace}
theorem spl_fields : ∃ f0 f1 f2 : Field, Try.prog.underlying 30 = some (.struct #[f0, f1, f2]) ∧ oneCellFields Try.prog #[f0, f1, f2] = true ∧ f0.type = 3 ∧ f1.type = 3 ∧ f2.type = 25 :=
  ⟨_, _, _, Try.underlying30, by kernel_rfl, rfl, rfl, rfl⟩
/-- One splice, read off its three cells. -/
theorem spl_in {fuel : Nat} {cs : List Value} {x : DataW H × List MemPlace} (h : DataW.trod enc Try.prog W 0 (fun _ => true) true fuel 30 cs = some x) :
    ∃ t : Ct, cs = t.cells ∧ CtOk W (· < W.heap.size) t := by
  obtain ⟨f0, f1, f2, hs, hone, t0, t1, t2⟩ := spl_fields
  obtain ⟨ys, n, _, _, hlen, hyl, hf⟩ := DataW.trod_struct hs h
  rw [cellsS] at hlen
  obtain ⟨c0, c1, c2, rfl⟩ := three cs hlen
  obtain ⟨y0, y1, y2, rfl⟩ := three ys hyl
  obtain ⟨o0, k0⟩ := hone_of hone 0 f0 rfl
  obtain ⟨o1, k1⟩ := hone_of hone 1 f1 rfl
  obtain ⟨o2, k2⟩ := hone_of hone 2 f2 rfl
  have g0 := hf 0 f0 rfl
  have g1 := hf 1 f1 rfl
  have g2 := hf 2 f2 rfl
  rw [o0, k0, t0] at g0
  rw [o1, k1, t1] at g1
  rw [o2, k2, t2] at g2
  obtain ⟨a0, e0, _, w0⟩ := DataW.trod_int Try.underlying3 (show DataW.trod enc Try.prog W 0 (fun _ => true) true n 3 [c0] = some y0 from g0)
  obtain ⟨a1, e1, _, w1⟩ := DataW.trod_int Try.underlying3 (show DataW.trod enc Try.prog W 0 (fun _ => true) true n 3 [c1] = some y1 from g1)
  obtain ⟨A2, n2, c2', zs, e2, hL⟩ := list_in (show DataW.trod enc Try.prog W 0 (fun _ => true) true n 25 [c2] = some y2 from g2)
  injection e0 with e0 _
  injection e1 with e1 _
  injection e2 with e2 _
  subst e0 e1 e2
  obtain rfl := hL.lst.len
  obtain ⟨b1, b2⟩ := int_i64 w0
  obtain ⟨b3, b4⟩ := int_i64 w1
  exact ⟨⟨a0, a1, A2, c2', zs⟩, rfl, ⟨b1, b2, b3, b4, hL.lst, hL.size, hL.few⟩⟩
set_option maxRecDepth 100000 in
theorem open_splice (hv : Value.okWide Try.prog W .any base 30 v) (h : DataW.Trod enc Try.prog W 0 (fun _ => true) true 30 v d p) :
    (∃ t : Ct, v = .agg #[.int .i64 t.a, .int .i64 t.d, .slice t.A t.ins.length t.c] ∧ CtOk W (· < W.heap.size) t) ∧ (∀ x ∈ p, x.block < W.heap.size) := by
  obtain ⟨cs, rfl, hsz, _⟩ : ∃ cs, v = .agg cs ∧ cs.size = Try.prog.cellsOf 30 ∧ Row.okWide Try.prog W .any base 30 cs := by
    simpa [Value.okWide, Try.underlying30] using hv
  refine ⟨?_, by obtain ⟨m, hm⟩ := h; exact DataW.trod_lt m _ _ _ hm⟩
  obtain ⟨fuel, h⟩ := h
  obtain ⟨t, ht, hok⟩ := spl_in h
  refine ⟨t, ?_, hok⟩
  have e : cs.toList = t.cells := by simpa [Value.cells] using ht
  have : cs = #[.int .i64 t.a, .int .i64 t.d, .slice t.A t.ins.length t.c] := by rw [← Array.toList_inj, e]; rfl
  rw [this]
set_option maxRecDepth 100000 in
theorem open_splices (hv : Value.okWide Try.prog W .any base 22 v) (h : DataW.Trod enc Try.prog W 0 (fun _ => true) true 22 v d p) :
    (∃ A n c ts, v = .slice A n c ∧ n = (ts : List Ct).length ∧ n ≤ maxLen ∧ Cuts W (· < W.heap.size) A ts ∧ n ≤ c ∧ (A = none → c = 0)) ∧ (∀ x ∈ p, x.block < W.heap.size) := by
  obtain ⟨A, n, c, rfl⟩ := okWide_slice Try.underlying22 hv
  refine ⟨?_, by obtain ⟨m, hm⟩ := h; exact DataW.trod_lt m _ _ _ hm⟩
  obtain ⟨fuel, hf⟩ := h
  rcases open_slice Try.underlying22 hf with ⟨hcs, _⟩ | ⟨⟨b, off, spot⟩, l, cap, m, fu, D, Pl, hcs, _, hl, hm, hmm, _, hi⟩
  · simp [Value.cells] at hcs
    obtain ⟨rfl, rfl, rfl⟩ := hcs
    exact ⟨none, 0, 0, [], rfl, rfl, Nat.zero_le _, ⟨VRd.nil, fun t ht => by cases ht⟩, Nat.le_refl _, fun _ => rfl⟩
  · simp [Value.cells] at hcs
    obtain ⟨rfl, rfl, rfl⟩ := hcs
    rw [cellsS] at hi
    have hmc : m = c := by simpa using hmm
    obtain ⟨ts, htl, hts⟩ := each_list (fun i (t : Ct) => (∀ j u, t.cells[j]? = some u → W.cell? ((⟨b, off, spot⟩ : Addr).add (i * 3 + j)) = some u) ∧ CtOk W (· < W.heap.size) t) n (fun i hin => by
      obtain ⟨cs', hc, ht'⟩ := hi i (by omega)
      obtain ⟨t, rfl, hok⟩ := spl_in ht'
      obtain ⟨_, _, hat⟩ := World.cells?_some hc
      refine ⟨t, fun j u hj => ?_, hok⟩
      have hj3 : j < 3 := by have := (List.getElem?_eq_some_iff.1 hj).1; simpa [Ct.cells] using this
      rw [← Go.Deep.add_add, hat j hj3, hj])
    refine ⟨_, n, c, ts, rfl, htl.symm, by omega, ⟨fun h0 => ?_, fun t ht => ?_⟩, by omega, (fun h => (by cases h))⟩
    · rw [flat_length, htl] at h0
      obtain ⟨t0, ht0⟩ : ∃ t, ts[0]? = some t := ⟨ts[0]'(by omega), List.getElem?_eq_getElem _⟩
      have hc0 := (hts 0 t0 ht0).1 0 _ rfl
      have hspot : spot = none := by simpa [Addr.add] using World.cell?_spot hc0
      subst hspot
      have hb := World.block_lt_of_cell? _ _ (by rw [← Go.WideShapes.add_plain]; exact hc0 : W.cell? ⟨b, off + (0 * 3 + 0), none⟩ = _)
      refine ⟨b, off, rfl, hb, hb, fun j u hj => ?_⟩
      have hj2 : j < ts.length * 3 := by
        have := (List.getElem?_eq_some_iff.1 hj).1
        rw [flat_length] at this; exact this
      obtain ⟨t, ht⟩ : ∃ t, ts[j / 3]? = some t := ⟨ts[j / 3]'(by omega), List.getElem?_eq_getElem _⟩
      have e := flat_get ts (j / 3) (j % 3) t ht (by omega)
      rw [show j / 3 * 3 + j % 3 = j by omega, hj] at e
      have := (hts (j / 3) t ht).1 (j % 3) u e.symm
      rw [show j / 3 * 3 + j % 3 = j by omega] at this
      rw [← Go.WideShapes.add_plain]
      exact this
    · obtain ⟨i, hi', rfl⟩ := List.getElem_of_mem ht
      exact (hts i _ (List.getElem?_eq_getElem hi')).2
end
end Go.Proofs.Ytojcbjificodaaa.sps
