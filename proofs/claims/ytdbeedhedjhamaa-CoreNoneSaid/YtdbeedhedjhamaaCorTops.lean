/- Core: what comes in: an act by value, a list of acts. -/
import Derived.Test.YtdbeedhedjhamaaCorAct
import Derived.Test.YtdbeedhedjhamaaSplTops
namespace Go.Proofs.Ytdbeedhedjhamaa.cor
open Go.ChangeShapes Go.WideShapes Go.ChangeAt Go.RowKit Go.Deep Go.Lib pce sps mrk
set_option linter.unusedVariables false
set_option linter.unusedSimpArgs false
set_option linter.unnecessarySimpa false
set_option linter.unusedSectionVars false

theorem cellsAct : Try.prog.cellsOf 26 = 7 := by kernel_rfl
theorem cells5' : Try.prog.cellsOf 5 = 1 := by kernel_rfl
theorem cells3' : Try.prog.cellsOf 3 = 1 := by kernel_rfl
theorem cells9' : Try.prog.cellsOf 9 = 1 := by kernel_rfl
theorem five {α : Type} (l : List α) (h : l.length = 5) : ∃ a b c d e, l = [a, b, c, d, e] := by
  match l, h with
  | [a, b, c, d, e], _ => exact ⟨a, b, c, d, e, rfl⟩
theorem seven {α : Type} (l : List α) (h : l.length = 7) : ∃ a b c d e f g, l = [a, b, c, d, e, f, g] := by
  match l, h with
  | [a, b, c, d, e, f, g], _ => exact ⟨a, b, c, d, e, f, g, rfl⟩
section
variable {H : Type} {enc : TypeId × Value → H} {W : World} {base : Nat} {v : Value} {d : DataW H} {p : List MemPlace}
theorem act_fields : ∃ f0 f1 f2 f3 f4 : Field, Try.prog.underlying 26 = some (.struct #[f0, f1, f2, f3, f4]) ∧ (f0.offset = 0 ∧ f1.offset = 1 ∧ f2.offset = 4 ∧ f3.offset = 5 ∧ f4.offset = 6) ∧ f0.type = 5 ∧ f1.type = 24 ∧ f2.type = 3 ∧ f3.type = 5 ∧ f4.type = 9 :=
  ⟨_, _, _, _, _, Try.underlying26, ⟨rfl, rfl, rfl, rfl, rfl⟩, rfl, rfl, rfl, rfl, rfl⟩
/-- One act, read off its seven cells. -/
theorem act_in {fuel : Nat} {cs : List Value} {x : DataW H × List MemPlace} (h : DataW.trod enc Try.prog W 0 (fun _ => true) true fuel 26 cs = some x) :
    ∃ t : Ac, cs = t.cells ∧ AcOk W (· < W.heap.size) t := by
  obtain ⟨f0, f1, f2, f3, f4, hs, ⟨o0, o1, o2, o3, o4⟩, t0, t1, t2, t3, t4⟩ := act_fields
  obtain ⟨ys, n, _, _, hlen, hyl, hf⟩ := DataW.trod_struct hs h
  rw [cellsAct] at hlen
  obtain ⟨c0, c1, c2, c3, c4, c5, c6, rfl⟩ := seven cs hlen
  obtain ⟨y0, y1, y2, y3, y4, rfl⟩ := five ys hyl
  have g0 := hf 0 f0 rfl
  have g1 := hf 1 f1 rfl
  have g2 := hf 2 f2 rfl
  have g3 := hf 3 f3 rfl
  have g4 := hf 4 f4 rfl
  rw [o0, t0, cells5'] at g0
  rw [o1, t1, cellsS] at g1
  rw [o2, t2, cells3'] at g2
  rw [o3, t3, cells5'] at g3
  rw [o4, t4, cells9'] at g4
  obtain ⟨a0, e0, _, w0⟩ := DataW.trod_int Try.underlying5 (show DataW.trod enc Try.prog W 0 (fun _ => true) true n 5 [c0] = some y0 from g0)
  obtain ⟨t, e1, hok⟩ := spl_in (show DataW.trod enc Try.prog W 0 (fun _ => true) true n 24 [c1, c2, c3] = some y1 from g1)
  obtain ⟨a2, e2, _, w2⟩ := DataW.trod_int Try.underlying3 (show DataW.trod enc Try.prog W 0 (fun _ => true) true n 3 [c4] = some y2 from g2)
  obtain ⟨a3, e3, _, w3⟩ := DataW.trod_int Try.underlying5 (show DataW.trod enc Try.prog W 0 (fun _ => true) true n 5 [c5] = some y3 from g3)
  obtain ⟨a4, e4, _, w4⟩ := DataW.trod_string Try.underlying9 (show DataW.trod enc Try.prog W 0 (fun _ => true) true n 9 [c6] = some y4 from g4)
  injection e0 with e0 _
  injection e2 with e2 _
  injection e3 with e3 _
  injection e4 with e4 _
  unfold Ct.cells at e1
  injection e1 with e11 e1
  injection e1 with e12 e1
  injection e1 with e13 _
  subst e0 e2 e3 e4 e11 e12 e13
  obtain ⟨m, rfl, hm⟩ := nat_u8 w0
  obtain ⟨l, rfl, hl⟩ := nat_u8 w3
  obtain ⟨b1, b2⟩ := int_i64 w2
  exact ⟨⟨m, t, a2, l, a4⟩, rfl, ⟨hm, hok, b1, b2, hl, w4⟩⟩
set_option maxRecDepth 100000 in
theorem open_act (hv : Value.okWide Try.prog W .any base 26 v) (h : DataW.Trod enc Try.prog W 0 (fun _ => true) true 26 v d p) :
    (∃ x : Ac, v = .agg #[.int .u8 x.kind, .int .i64 x.t.a, .int .i64 x.t.d, .slice x.t.A x.t.ins.length x.t.c, .int .i64 x.at_, .int .u8 x.letter, .string x.text] ∧ AcOk W (· < W.heap.size) x) ∧ (∀ x ∈ p, x.block < W.heap.size) := by
  obtain ⟨cs, rfl, hsz, _⟩ : ∃ cs, v = .agg cs ∧ cs.size = Try.prog.cellsOf 26 ∧ Row.okWide Try.prog W .any base 26 cs := by
    simpa [Value.okWide, Try.underlying26] using hv
  refine ⟨?_, by obtain ⟨m, hm⟩ := h; exact DataW.trod_lt m _ _ _ hm⟩
  obtain ⟨fuel, h⟩ := h
  obtain ⟨t, ht, hok⟩ := act_in h
  refine ⟨t, ?_, hok⟩
  have e : cs.toList = t.cells := by simpa [Value.cells] using ht
  have : cs = #[.int .u8 t.kind, .int .i64 t.t.a, .int .i64 t.t.d, .slice t.t.A t.t.ins.length t.t.c, .int .i64 t.at_, .int .u8 t.letter, .string t.text] := by rw [← Array.toList_inj, e]; rfl
  rw [this]
set_option maxRecDepth 100000 in
theorem open_acts (hv : Value.okWide Try.prog W .any base 28 v) (h : DataW.Trod enc Try.prog W 0 (fun _ => true) true 28 v d p) :
    (∃ A n c ts, v = .slice A n c ∧ n = (ts : List Ac).length ∧ n ≤ maxLen ∧ Acs W (· < W.heap.size) A ts) ∧ (∀ x ∈ p, x.block < W.heap.size) := by
  obtain ⟨A, n, c, rfl⟩ := okWide_slice Try.underlying28 hv
  refine ⟨?_, by obtain ⟨m, hm⟩ := h; exact DataW.trod_lt m _ _ _ hm⟩
  obtain ⟨fuel, hf⟩ := h
  rcases open_slice Try.underlying28 hf with ⟨hcs, _⟩ | ⟨⟨b, off, spot⟩, l, cap, m, fu, D, Pl, hcs, _, hl, hm, hmm, _, hi⟩
  · simp [Value.cells] at hcs
    obtain ⟨rfl, rfl, rfl⟩ := hcs
    exact ⟨none, 0, 0, [], rfl, rfl, Nat.zero_le _, ⟨VRd.nil, fun t ht => by cases ht⟩⟩
  · simp [Value.cells] at hcs
    obtain ⟨rfl, rfl, rfl⟩ := hcs
    rw [cellsAct] at hi
    have hmc : m = c := by simpa using hmm
    obtain ⟨ts, htl, hts⟩ := each_list (fun i (t : Ac) => (∀ j u, t.cells[j]? = some u → W.cell? ((⟨b, off, spot⟩ : Addr).add (i * 7 + j)) = some u) ∧ AcOk W (· < W.heap.size) t) n (fun i hin => by
      obtain ⟨cs', hc, ht'⟩ := hi i (by omega)
      obtain ⟨t, rfl, hok⟩ := act_in ht'
      obtain ⟨_, _, hat⟩ := World.cells?_some hc
      refine ⟨t, fun j u hj => ?_, hok⟩
      have hj3 : j < 7 := by have := (List.getElem?_eq_some_iff.1 hj).1; simpa [Ac.cells] using this
      rw [← Go.Deep.add_add, hat j hj3, hj])
    refine ⟨_, n, c, ts, rfl, htl.symm, by omega, ⟨fun h0 => ?_, fun t ht => ?_⟩⟩
    · rw [flatA_length, htl] at h0
      obtain ⟨t0, ht0⟩ : ∃ t, ts[0]? = some t := ⟨ts[0]'(by omega), List.getElem?_eq_getElem _⟩
      have hc0 := (hts 0 t0 ht0).1 0 _ rfl
      have hspot : spot = none := by simpa [Addr.add] using World.cell?_spot hc0
      subst hspot
      have hb := World.block_lt_of_cell? _ _ (by rw [← Go.WideShapes.add_plain]; exact hc0 : W.cell? ⟨b, off + (0 * 7 + 0), none⟩ = _)
      refine ⟨b, off, rfl, hb, hb, fun j u hj => ?_⟩
      have hj2 : j < ts.length * 7 := by
        have := (List.getElem?_eq_some_iff.1 hj).1
        rw [flatA_length] at this; exact this
      obtain ⟨t, ht⟩ : ∃ t, ts[j / 7]? = some t := ⟨ts[j / 7]'(by omega), List.getElem?_eq_getElem _⟩
      have e := flatA_get ts (j / 7) (j % 7) t ht (by omega)
      have ej : j / 7 * 7 + j % 7 = j := by omega
      rw [ej, hj] at e
      have := (hts (j / 7) t ht).1 (j % 7) u e.symm
      rw [ej, Go.WideShapes.add_plain] at this
      exact this
    · obtain ⟨i, hi', he⟩ := List.mem_iff_getElem.1 ht
      exact (hts i t (by rw [List.getElem?_eq_getElem hi', he])).2
end
end Go.Proofs.Ytdbeedhedjhamaa.cor
