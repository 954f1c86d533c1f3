/- Splices: what comes in: a splice by value, a list of them; what the rows' listed variables give. -/
import Derived.Test.YtdbeedhedjhamaaPceLawNone
import Derived.Deep.Slices
import Derived.Deep.Fields
import Derived.ChangeSlices
import Derived.ShutString
import Derived.ChangeOld
import Derived.SliceStrings
import Derived.Test.YtdbeedhedjhamaaSplCells
import Derived.Lib.Hide
import Derived.ProofKit
import Derived.OpenShut
/-! Pieces: what comes in: a list of texts, a list of splices, one splice, three numbers, bytes. -/
namespace Go.Proofs.Ytdbeedhedjhamaa.pce
open Go.ChangeShapes Go.WideShapes Go.ChangeAt Go.RowKit Go.Deep Go.Lib
set_option linter.unusedVariables false
set_option linter.unusedSimpArgs false
set_option linter.unnecessarySimpa false
set_option linter.unusedSectionVars false

theorem own : ownKnob Try.prog.godebug = none := by kernel_rfl
theorem laidOut : laidOutB Try.prog = true := by kernel_rfl
theorem cells9 : Try.prog.cellsOf 9 = 1 := by kernel_rfl
theorem cells3 : Try.prog.cellsOf 3 = 1 := by kernel_rfl
theorem nat_u8 {a : Int} (h : (Lit.int .u8 a).wf = true) : ∃ n : Nat, a = n ∧ n < 256 := by
  simp [Lit.wf, IntKind.min, IntKind.max, IntKind.signed, IntKind.bits] at h
  exact ⟨a.toNat, by omega, by omega⟩
theorem int_i64 {a : Int} (h : (Lit.int .i64 a).wf = true) : -9223372036854775808 ≤ a ∧ a ≤ 9223372036854775807 := by
  simp [Lit.wf, IntKind.min, IntKind.max, IntKind.signed, IntKind.bits] at h
  exact ⟨by omega, by omega⟩
/-- What stands at each place, as one list. -/
theorem each_list {α : Type} (P : Nat → α → Prop) : ∀ n : Nat, (∀ i, i < n → ∃ x, P i x) → ∃ l : List α, l.length = n ∧ ∀ i x, l[i]? = some x → P i x
  | 0, _ => ⟨[], rfl, fun i x h => by simp at h⟩
  | n + 1, h => by
    obtain ⟨l, h1, h2⟩ := each_list P n fun i hi => h i (by omega)
    obtain ⟨y, hy⟩ := h n (by omega)
    refine ⟨l ++ [y], by simp [h1], fun i x hx => ?_⟩
    by_cases hi : i < n
    · rw [List.getElem?_append_left (by omega)] at hx
      exact h2 i x hx
    · rw [List.getElem?_append_right (by omega)] at hx
      have : i - l.length = 0 := by
        have := (List.getElem?_eq_some_iff.1 hx).1
        simp at this; omega
      rw [this] at hx
      simp at hx
      subst hx
      have : i = n := by omega
      rw [this]; exact hy
theorem three {α : Type} (l : List α) (h : l.length = 3) : ∃ a b c, l = [a, b, c] := by
  match l, h with
  | [a, b, c], _ => exact ⟨a, b, c, rfl⟩

section
variable {H : Type} {enc : TypeId × Value → H} {W : World} {base : Nat} {v : Value} {d : DataW H} {p : List MemPlace}

/-- A list of texts, wherever it stands. -/
theorem list_in {fuel : Nat} {cs : List Value} {x : DataW H × List MemPlace} (h : DataW.trod enc Try.prog W 0 (fun _ => true) true fuel 22 cs = some x) :
    ∃ A n c zs, cs = [.slice A n c] ∧ InL W A n c zs := by
  rcases open_strings Try.underlying22 Try.underlying9 (by kernel_rfl) h with ⟨rfl, _⟩ | ⟨⟨b, off, spot⟩, l, c', ss, rfl, _, hl, hm, hz, _, hcell, hws⟩
  · exact ⟨none, 0, 0, [], rfl, ⟨⟨rfl, Nat.le_refl _, (fun _ => rfl), VRd.nil⟩, Nat.zero_le _, (fun z hz => (by cases hz))⟩⟩
  · have hz' : ss.length = c' := by simpa using hz
    have hn : (ss.take l).length = l := by rw [List.length_take]; omega
    refine ⟨some ⟨b, off, spot⟩, l, c', ss.take l, rfl, ⟨hn.symm, by omega, (fun h => (by cases h)), fun h0 => ?_⟩, by omega, fun z hz => hws z (List.mem_of_mem_take hz)⟩
    rw [List.length_map, hn] at h0
    have hspot : spot = none := by simpa [Addr.add] using World.cell?_spot (hcell 0 (by omega))
    subst hspot
    have hb := World.block_lt_of_cell? _ _ (by rw [← Go.WideShapes.add_plain]; exact hcell 0 (by omega) : W.cell? ⟨b, off + 0, none⟩ = _)
    refine ⟨b, off, rfl, hb, hb, fun j u hj => ?_⟩
    have hj2 : j < l := by
      have := (List.getElem?_eq_some_iff.1 hj).1
      rw [List.length_map, hn] at this; exact this
    rw [← Go.WideShapes.add_plain, hcell j (by omega), ← hj, List.getElem?_map, List.getElem?_take, if_pos hj2]
    simp [List.getD, List.getElem?_eq_getElem (show j < ss.length by omega)]
set_option maxRecDepth 100000 in
theorem open_list (hv : Value.okWide Try.prog W .any base 22 v) (h : DataW.Trod enc Try.prog W 0 (fun _ => true) true 22 v d p) :
    (∃ A n c zs, v = .slice A n c ∧ InL W A n c zs) ∧ (∀ x ∈ p, x.block < W.heap.size) := by
  obtain ⟨A, n, c, rfl⟩ := okWide_slice Try.underlying22 hv
  refine ⟨?_, by obtain ⟨m, hm⟩ := h; exact DataW.trod_lt m _ _ _ hm⟩
  obtain ⟨fuel, hf⟩ := h
  obtain ⟨A', n', c', zs, hcs, hL⟩ := list_in hf
  simp [Value.cells] at hcs
  obtain ⟨rfl, rfl, rfl⟩ := hcs
  exact ⟨_, _, _, zs, rfl, hL⟩

theorem cells5 : Try.prog.cellsOf 5 = 1 := by kernel_rfl
theorem trod_array3 {P : Program} {w : World} {base : Nat} {spare : Nat → Bool} {held : Bool} {t e : TypeId} {fuel : Nat} {c0 c1 c2 : Value} {x : DataW H × List MemPlace} (ht : P.underlying t = some (.array 3 e)) (hce : P.cellsOf e = 1)
    (h : DataW.trod enc P w base spare held fuel t [c0, c1, c2] = some x) :
    ∃ y0 y1 y2 n, DataW.trod enc P w base spare held n e [c0] = some y0 ∧ DataW.trod enc P w base spare held n e [c1] = some y1 ∧ DataW.trod enc P w base spare held n e [c2] = some y2 := by
  cases fuel with
  | zero => simp [DataW.trod] at h
  | succ n =>
    unfold DataW.trod at h
    rw [ht] at h
    have r3 : List.range 3 = [0, 1, 2] := rfl
    simp [r3, hce] at h
    obtain ⟨_, h⟩ := h
    cases h0 : DataW.trod enc P w base spare held n e [c0] with
    | none => simp [h0] at h
    | some y0 =>
      cases h1 : DataW.trod enc P w base spare held n e [c1] with
      | none => simp [h0, h1] at h
      | some y1 =>
        cases h2 : DataW.trod enc P w base spare held n e [c2] with
        | none => simp [h0, h1, h2] at h
        | some y2 => exact ⟨y0, y1, y2, n, h0, h1, h2⟩
end
end Go.Proofs.Ytdbeedhedjhamaa.pce

/-! Splices: what comes in: a splice by value, a list of them; what the rows' listed variables give. -/
namespace Go.Proofs.Ytdbeedhedjhamaa.sps
open Go.ChangeShapes Go.WideShapes Go.ChangeAt Go.RowKit Go.Deep Go.Lib pce
set_option linter.unusedVariables false
set_option linter.unusedSimpArgs false
set_option linter.unnecessarySimpa false
set_option linter.unusedSectionVars false

theorem cellsS : Try.prog.cellsOf 24 = 3 := by kernel_rfl
theorem nat_u16 {a : Int} (h : (Lit.int .u16 a).wf = true) : ∃ n : Nat, a = n ∧ n < 65536 := by
  simp [Lit.wf, IntKind.min, IntKind.max, IntKind.signed, IntKind.bits] at h
  exact ⟨a.toNat, by omega, by omega⟩
section
variable {H : Type} {enc : TypeId × Value → H} {W : World} {base : Nat} {v : Value} {d : DataW H} {p : List MemPlace}
theorem spl_fields : ∃ f0 f1 f2 : Field, Try.prog.underlying 24 = some (.struct #[f0, f1, f2]) ∧ oneCellFields Try.prog #[f0, f1, f2] = true ∧ f0.type = 3 ∧ f1.type = 3 ∧ f2.type = 22 :=
  ⟨_, _, _, Try.underlying24, by kernel_rfl, rfl, rfl, rfl⟩
/-- One splice, read off its three cells. -/
theorem spl_in {fuel : Nat} {cs : List Value} {x : DataW H × List MemPlace} (h : DataW.trod enc Try.prog W 0 (fun _ => true) true fuel 24 cs = some x) :
    ∃ t : Ct, cs = t.cells ∧ CtOk W (· < W.heap.size) t := by
  obtain ⟨f0, f1, f2, hs, hone, t0, t1, t2⟩ := spl_fields
  obtain ⟨ys, n, _, _, hlen, hyl, hf⟩ := DataW.trod_struct hs h
  rw [cellsS] at hlen
  obtain ⟨c0, c1, c2, rfl⟩ := three cs hlen
  obtain ⟨y0, y1, y2, rfl⟩ := three ys hyl
  obtain ⟨o0, k0⟩ := hone_of hone 0 f0 rfl
  obtain ⟨o1, k1⟩ := hone_of hone 1 f1 rfl
  obtain ⟨o2, k2⟩ := hone_of hone 2 f2 rfl
  have g0 := hf 0 f0 rfl
  have g1 := hf 1 f1 rfl
  have g2 := hf 2 f2 rfl
  rw [o0, k0, t0] at g0
  rw [o1, k1, t1] at g1
  rw [o2, k2, t2] at g2
  obtain ⟨a0, e0, _, w0⟩ := DataW.trod_int Try.underlying3 (show DataW.trod enc Try.prog W 0 (fun _ => true) true n 3 [c0] = some y0 from g0)
  obtain ⟨a1, e1, _, w1⟩ := DataW.trod_int Try.underlying3 (show DataW.trod enc Try.prog W 0 (fun _ => true) true n 3 [c1] = some y1 from g1)
  obtain ⟨A2, n2, c2', zs, e2, hL⟩ := list_in (show DataW.trod enc Try.prog W 0 (fun _ => true) true n 22 [c2] = some y2 from g2)
  injection e0 with e0 _
  injection e1 with e1 _
  injection e2 with e2 _
  subst e0 e1 e2
  obtain rfl := hL.lst.len
  obtain ⟨b1, b2⟩ := int_i64 w0
  obtain ⟨b3, b4⟩ := int_i64 w1
  exact ⟨⟨a0, a1, A2, c2', zs⟩, rfl, ⟨b1, b2, b3, b4, hL.lst, hL.size, hL.few⟩⟩
set_option maxRecDepth 100000 in
theorem open_splice (hv : Value.okWide Try.prog W .any base 24 v) (h : DataW.Trod enc Try.prog W 0 (fun _ => true) true 24 v d p) :
    (∃ t : Ct, v = .agg #[.int .i64 t.a, .int .i64 t.d, .slice t.A t.ins.length t.c] ∧ CtOk W (· < W.heap.size) t) ∧ (∀ x ∈ p, x.block < W.heap.size) := by
  obtain ⟨cs, rfl, hsz, _⟩ : ∃ cs, v = .agg cs ∧ cs.size = Try.prog.cellsOf 24 ∧ Row.okWide Try.prog W .any base 24 cs := by
    simpa [Value.okWide, Try.underlying24] using hv
  refine ⟨?_, by obtain ⟨m, hm⟩ := h; exact DataW.trod_lt m _ _ _ hm⟩
  obtain ⟨fuel, h⟩ := h
  obtain ⟨t, ht, hok⟩ := spl_in h
  refine ⟨t, ?_, hok⟩
  have e : cs.toList = t.cells := by simpa [Value.cells] using ht
  have : cs = #[.int .i64 t.a, .int .i64 t.d, .slice t.A t.ins.length t.c] := by rw [← Array.toList_inj, e]; rfl
  rw [this]
set_option maxRecDepth 100000 in
theorem open_splices (hv : Value.okWide Try.prog W .any base 31 v) (h : DataW.Trod enc Try.prog W 0 (fun _ => true) true 31 v d p) :
    (∃ A n c ts, v = .slice A n c ∧ n = (ts : List Ct).length ∧ n ≤ maxLen ∧ Cuts W (· < W.heap.size) A ts ∧ n ≤ c ∧ (A = none → c = 0)) ∧ (∀ x ∈ p, x.block < W.heap.size) := by
  obtain ⟨A, n, c, rfl⟩ := okWide_slice Try.underlying31 hv
  refine ⟨?_, by obtain ⟨m, hm⟩ := h; exact DataW.trod_lt m _ _ _ hm⟩
  obtain ⟨fuel, hf⟩ := h
  rcases open_slice Try.underlying31 hf with ⟨hcs, _⟩ | ⟨⟨b, off, spot⟩, l, cap, m, fu, D, Pl, hcs, _, hl, hm, hmm, _, hi⟩
  · simp [Value.cells] at hcs
    obtain ⟨rfl, rfl, rfl⟩ := hcs
    exact ⟨none, 0, 0, [], rfl, rfl, Nat.zero_le _, ⟨VRd.nil, fun t ht => by cases ht⟩, Nat.le_refl _, fun _ => rfl⟩
  · simp [Value.cells] at hcs
    obtain ⟨rfl, rfl, rfl⟩ := hcs
    rw [cellsS] at hi
    have hmc : m = c := by simpa using hmm
    obtain ⟨ts, htl, hts⟩ := each_list (fun i (t : Ct) => (∀ j u, t.cells[j]? = some u → W.cell? ((⟨b, off, spot⟩ : Addr).add (i * 3 + j)) = some u) ∧ CtOk W (· < W.heap.size) t) n (fun i hin => by
      obtain ⟨cs', hc, ht'⟩ := hi i (by omega)
      obtain ⟨t, rfl, hok⟩ := spl_in ht'
      obtain ⟨_, _, hat⟩ := World.cells?_some hc
      refine ⟨t, fun j u hj => ?_, hok⟩
      have hj3 : j < 3 := by have := (List.getElem?_eq_some_iff.1 hj).1; simpa [Ct.cells] using this
      rw [← Go.Deep.add_add, hat j hj3, hj])
    refine ⟨_, n, c, ts, rfl, htl.symm, by omega, ⟨fun h0 => ?_, fun t ht => ?_⟩, by omega, (fun h => (by cases h))⟩
    · rw [flat_length, htl] at h0
      obtain ⟨t0, ht0⟩ : ∃ t, ts[0]? = some t := ⟨ts[0]'(by omega), List.getElem?_eq_getElem _⟩
      have hc0 := (hts 0 t0 ht0).1 0 _ rfl
      have hspot : spot = none := by simpa [Addr.add] using World.cell?_spot hc0
      subst hspot
      have hb := World.block_lt_of_cell? _ _ (by rw [← Go.WideShapes.add_plain]; exact hc0 : W.cell? ⟨b, off + (0 * 3 + 0), none⟩ = _)
      refine ⟨b, off, rfl, hb, hb, fun j u hj => ?_⟩
      have hj2 : j < ts.length * 3 := by
        have := (List.getElem?_eq_some_iff.1 hj).1
        rw [flat_length] at this; exact this
      obtain ⟨t, ht⟩ : ∃ t, ts[j / 3]? = some t := ⟨ts[j / 3]'(by omega), List.getElem?_eq_getElem _⟩
      have e := flat_get ts (j / 3) (j % 3) t ht (by omega)
      rw [show j / 3 * 3 + j % 3 = j by omega, hj] at e
      have := (hts (j / 3) t ht).1 (j % 3) u e.symm
      rw [show j / 3 * 3 + j % 3 = j by omega] at this
      rw [← Go.WideShapes.add_plain]
      exact this
    · obtain ⟨i, hi', rfl⟩ := List.getElem_of_mem ht
      exact (hts i _ (List.getElem?_eq_getElem hi')).2
end
end Go.Proofs.Ytdbeedhedjhamaa.sps
