/- Files: what comes in: a list of things to do; of each, that its list of numbers, if it is nil, has no room. -/
import Derived.Test.YtlbhegicapggeaaGreatFilTops
namespace Go.Proofs.YtlbhegicapggeaaGreat.fil
open Go.ChangeShapes Go.WideShapes Go.ChangeAt Go.RowKit Go.Deep Go.Lib
set_option linter.unusedVariables false
set_option linter.unusedSimpArgs false
set_option linter.unnecessarySimpa false
set_option linter.unusedSectionVars false

section
variable {H : Type} {enc : TypeId × Value → H} {W : World} {base : Nat} {v : Value} {d : DataW H} {p : List MemPlace}

/-- A list of numbers, wherever it stands. -/
theorem ints_inN {fuel : Nat} {cs : List Value} {x : DataW H × List MemPlace} (h : DataW.trod enc Tryz.prog W 0 (fun _ => true) true fuel 32 cs = some x) :
    ∃ A c ks, cs = [.slice A (ks : List Int).length c] ∧ ks.length ≤ c ∧ c ≤ maxLen ∧ LRd W 0 W.heap.size A (iv ks) ∧ (A = none → c = 0) := by
  rcases open_ints Tryz.underlying32 Tryz.underlying3 cells3 h with ⟨rfl, _⟩ | ⟨⟨b, off, spot⟩, l, c, zs, rfl, _, hl, hm, hz, _, hcell, _⟩
  · exact ⟨none, 0, [], rfl, Nat.le_refl _, Nat.zero_le _, fun h0 => absurd h0 (by decide), fun _ => rfl⟩
  · have hz' : zs.length = c := by simpa using hz
    have hk : (zs.take l).length = l := by rw [List.length_take]; omega
    refine ⟨some ⟨b, off, spot⟩, c, zs.take l, by rw [hk], by omega, hm, fun h0 => ?_, fun e => by cases e⟩
    rw [iv_length, hk] at h0
    have hspot : spot = none := by simpa [Addr.add] using World.cell?_spot (hcell 0 (by omega))
    subst hspot
    have hb := World.block_lt_of_cell? _ _ (by rw [← Go.WideShapes.add_plain]; exact hcell 0 (by omega) : W.cell? ⟨b, off + 0, none⟩ = _)
    refine ⟨b, off, rfl, Nat.zero_le _, hb, fun j u hj => ?_⟩
    have hj2 : j < l := by
      have := (List.getElem?_eq_some_iff.1 hj).1
      rw [iv_length, hk] at this; exact this
    rw [← Go.WideShapes.add_plain, hcell j (by omega)]
    simp only [iv, List.getElem?_map, List.getElem?_take, hj2, if_true] at hj
    rw [List.getElem?_eq_getElem (by omega)] at hj
    simpa [List.getD, List.getElem?_eq_getElem (show j < zs.length by omega)] using hj
/-- One thing, read off its six cells. -/
theorem do_inN {fuel : Nat} {cs : List Value} {x : DataW H × List MemPlace} (h : DataW.trod enc Tryz.prog W 0 (fun _ => true) true fuel 34 cs = some x) :
    ∃ t : Dt, cs = t.cells ∧ t.Ok ∧ LRd W 0 W.heap.size t.kA (iv t.k) ∧ (t.kA = none → t.kc = 0) := by
  obtain ⟨f0, f1, f2, f3, f4, f5, hs, hone, t0, t1, t2, t3, t4, t5⟩ := do_fields
  obtain ⟨ys, n, _, _, hlen, hyl, hf⟩ := DataW.trod_struct hs h
  rw [cellsDo] at hlen
  obtain ⟨c0, c1, c2, c3, c4, c5, rfl⟩ := six cs hlen
  obtain ⟨y0, y1, y2, y3, y4, y5, rfl⟩ := six ys hyl
  obtain ⟨o0, k0⟩ := hone_of hone 0 f0 rfl
  obtain ⟨o1, k1⟩ := hone_of hone 1 f1 rfl
  obtain ⟨o2, k2⟩ := hone_of hone 2 f2 rfl
  obtain ⟨o3, k3⟩ := hone_of hone 3 f3 rfl
  obtain ⟨o4, k4⟩ := hone_of hone 4 f4 rfl
  obtain ⟨o5, k5⟩ := hone_of hone 5 f5 rfl
  have g0 := hf 0 f0 rfl
  have g1 := hf 1 f1 rfl
  have g2 := hf 2 f2 rfl
  have g3 := hf 3 f3 rfl
  have g4 := hf 4 f4 rfl
  have g5 := hf 5 f5 rfl
  rw [o0, k0, t0] at g0
  rw [o1, k1, t1] at g1
  rw [o2, k2, t2] at g2
  rw [o3, k3, t3] at g3
  rw [o4, k4, t4] at g4
  rw [o5, k5, t5] at g5
  obtain ⟨a0, e0, _, w0⟩ := DataW.trod_int Tryz.underlying5 (show DataW.trod enc Tryz.prog W 0 (fun _ => true) true n 5 [c0] = some y0 from g0)
  obtain ⟨a1, e1, _, w1⟩ := DataW.trod_string Tryz.underlying9 (show DataW.trod enc Tryz.prog W 0 (fun _ => true) true n 9 [c1] = some y1 from g1)
  obtain ⟨a2, e2, _, w2⟩ := DataW.trod_string Tryz.underlying9 (show DataW.trod enc Tryz.prog W 0 (fun _ => true) true n 9 [c2] = some y2 from g2)
  obtain ⟨a3, e3, _, w3⟩ := DataW.trod_string Tryz.underlying9 (show DataW.trod enc Tryz.prog W 0 (fun _ => true) true n 9 [c3] = some y3 from g3)
  obtain ⟨a4, e4, _, w4⟩ := DataW.trod_int Tryz.underlying3 (show DataW.trod enc Tryz.prog W 0 (fun _ => true) true n 3 [c4] = some y4 from g4)
  obtain ⟨A5, k5', ks, e5, q1, q2, q3, q4⟩ := ints_inN (show DataW.trod enc Tryz.prog W 0 (fun _ => true) true n 32 [c5] = some y5 from g5)
  injection e0 with e0 _
  injection e1 with e1 _
  injection e2 with e2 _
  injection e3 with e3 _
  injection e4 with e4 _
  injection e5 with e5 _
  subst e0 e1 e2 e3 e4 e5
  obtain ⟨m, rfl, hm⟩ := nat_u8 w0
  obtain ⟨b1, b2⟩ := int_i64 w4
  exact ⟨⟨m, a1, a2, a3, a4, A5, k5', ks⟩, rfl, ⟨hm, w1, w2, w3, b1, b2, q1, q2⟩, q3, q4⟩

set_option maxRecDepth 100000 in
theorem open_dosN (hv : Value.okWide Tryz.prog W .any base 22 v) (h : DataW.Trod enc Tryz.prog W 0 (fun _ => true) true 22 v d p) :
    (∃ A n c ds, v = .slice A n c ∧ n = (ds : List Dt).length ∧ n ≤ 9223372036854775807 ∧ Dos W W.heap.size A ds ∧ (∀ d ∈ ds, d.kA = none → d.kc = 0)) ∧ (∀ x ∈ p, x.block < W.heap.size) := by
  obtain ⟨A, n, c, rfl⟩ := okWide_slice Tryz.underlying22 hv
  refine ⟨?_, by obtain ⟨m, hm⟩ := h; exact DataW.trod_lt m _ _ _ hm⟩
  obtain ⟨fuel, hf⟩ := h
  rcases open_slice Tryz.underlying22 hf with ⟨hcs, _⟩ | ⟨⟨b, off, spot⟩, l, cap, m, fu, D, Pl, hcs, _, hl, hm, hmm, _, hi⟩
  · simp [Value.cells] at hcs
    obtain ⟨rfl, rfl, rfl⟩ := hcs
    exact ⟨none, 0, 0, [], rfl, rfl, by omega, ⟨fun h0 => absurd h0 (by decide), by simp, by simp⟩, by simp⟩
  · simp [Value.cells] at hcs
    obtain ⟨rfl, rfl, rfl⟩ := hcs
    rw [cellsDo] at hi
    have hmc : m = c := by simpa using hmm
    obtain ⟨ds, hdl, hds⟩ := each_list (fun i (t : Dt) => (∀ j u, t.cells[j]? = some u → W.cell? ((⟨b, off, spot⟩ : Addr).add (i * 6 + j)) = some u) ∧ t.Ok ∧ LRd W 0 W.heap.size t.kA (iv t.k) ∧ (t.kA = none → t.kc = 0)) n (fun i hin => by
      obtain ⟨cs', hc, ht'⟩ := hi i (by omega)
      obtain ⟨t, rfl, hok, hk, hkn⟩ := do_inN ht'
      obtain ⟨_, _, hat⟩ := World.cells?_some hc
      refine ⟨t, fun j u hj => ?_, hok, hk, hkn⟩
      have hj6 : j < 6 := by have := (List.getElem?_eq_some_iff.1 hj).1; simpa [Dt.cells] using this
      rw [← Go.Deep.add_add, hat j hj6, hj])
    refine ⟨_, n, c, ds, rfl, hdl.symm, by unfold maxLen at hm; omega, ⟨fun h0 => ?_, fun t ht => ?_, fun t ht => ?_⟩, fun t ht => ?_⟩
    · rw [flat_length, hdl] at h0
      obtain ⟨t0, ht0⟩ : ∃ t, ds[0]? = some t := ⟨ds[0]'(by omega), List.getElem?_eq_getElem _⟩
      have hc0 := (hds 0 t0 ht0).1 0 _ rfl
      have hspot : spot = none := by simpa [Addr.add] using World.cell?_spot hc0
      subst hspot
      have hb := World.block_lt_of_cell? _ _ (by rw [← Go.WideShapes.add_plain]; exact hc0 : W.cell? ⟨b, off + (0 * 6 + 0), none⟩ = _)
      refine ⟨b, off, rfl, Nat.zero_le _, hb, fun j u hj => ?_⟩
      have hj2 : j < ds.length * 6 := by
        have := (List.getElem?_eq_some_iff.1 hj).1
        rw [flat_length] at this; exact this
      obtain ⟨t, ht⟩ : ∃ t, ds[j / 6]? = some t := ⟨ds[j / 6]'(by omega), List.getElem?_eq_getElem _⟩
      have e := flat_get ds (j / 6) (j % 6) t ht (by omega)
      rw [show j / 6 * 6 + j % 6 = j by omega, hj] at e
      have := (hds (j / 6) t ht).1 (j % 6) u e.symm
      rw [show j / 6 * 6 + j % 6 = j by omega] at this
      rw [← Go.WideShapes.add_plain]
      exact this
    · obtain ⟨i, hi', rfl⟩ := List.getElem_of_mem ht
      exact (hds i _ (List.getElem?_eq_getElem hi')).2.2.1
    · obtain ⟨i, hi', rfl⟩ := List.getElem_of_mem ht
      exact (hds i _ (List.getElem?_eq_getElem hi')).2.1
    · obtain ⟨i, hi', rfl⟩ := List.getElem_of_mem ht
      exact (hds i _ (List.getElem?_eq_getElem hi')).2.2.2
end
end Go.Proofs.YtlbhegicapggeaaGreat.fil
