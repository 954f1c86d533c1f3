/- Saves: what comes in: a list of texts; bytes and numbers, in a struct by value. -/
import Derived.Test.YtlbhegicapggeaaFilPair
namespace Go.Proofs.Ytlbhegicapggeaa.sav
open Go.ChangeShapes Go.WideShapes Go.ChangeAt Go.RowKit Go.Deep Go.Lib fil
set_option linter.unusedVariables false
set_option linter.unusedSimpArgs false
set_option linter.unnecessarySimpa false
set_option linter.unusedSectionVars false

/-- A list that came in: its lines, each of a length that may be. -/
def IsList (w : World) (A : Option Addr) (n c : Nat) (zs : List ByteArray) : Prop :=
  n = zs.length ∧ (A = none → c = 0) ∧ n ≤ maxLen ∧ (∀ z ∈ zs, z.size ≤ maxLen) ∧ SRd w w.heap.size A zs

set_option maxRecDepth 100000 in
theorem open_list {H : Type} {enc : TypeId × Value → H} {W : World} {base : Nat} {v : Value} {d : DataW H} {p : List MemPlace}
    (hv : Value.okWide Try.prog W .any base 38 v) (h : DataW.Trod enc Try.prog W 0 (fun _ => true) true 38 v d p) :
    (∃ A n c zs, v = .slice A n c ∧ IsList W A n c zs) ∧ (∀ x ∈ p, x.block < W.heap.size) := by
  obtain ⟨A, n, c, rfl⟩ := okWide_slice Try.underlying38 hv
  refine ⟨⟨A, n, c, ?_⟩, by obtain ⟨m, hm⟩ := h; exact DataW.trod_lt m _ _ _ hm⟩
  obtain ⟨fuel, hf⟩ := h
  rcases open_strings Try.underlying38 Try.underlying9 (by kernel_rfl) hf with ⟨hcs, _⟩ | ⟨x, l, c', ss, hcs, _, hl, hm, hz, _, hcell, hws⟩
  · simp [Value.cells] at hcs
    obtain ⟨rfl, rfl, rfl⟩ := hcs
    exact ⟨[], rfl, rfl, fun _ => rfl, Nat.zero_le _, by simp, SRd.nil⟩
  · simp [Value.cells] at hcs
    obtain ⟨rfl, rfl, rfl⟩ := hcs
    have hz' : ss.length = c := by simpa using hz
    refine ⟨ss.take n, rfl, by rw [List.length_take]; omega, fun h => by (cases h), by omega, fun z hz => hws z (List.mem_of_mem_take hz), fun h0 => ?_⟩
    obtain ⟨b, off, spot⟩ := x
    have hn : (ss.take n).length = n := by rw [List.length_take]; omega
    rw [hn] at h0
    have hspot : spot = none := by simpa [Addr.add] using World.cell?_spot (hcell 0 (by omega))
    subst hspot
    have hb := World.block_lt_of_cell? _ _ (by rw [← Go.WideShapes.add_plain]; exact hcell 0 (by omega) : W.cell? ⟨b, off + 0, none⟩ = _)
    refine ⟨b, off, rfl, hb, fun j hj => ?_⟩
    rw [hn] at hj
    rw [← Go.WideShapes.add_plain, hcell j (by omega)]
    have : (ss.take n).getD j ByteArray.empty = ss.getD j ByteArray.empty := by simp [hj]
    rw [this]

theorem cells5 : Try.prog.cellsOf 5 = 1 := by kernel_rfl
theorem cellsFails : Try.prog.cellsOf 42 = 2 := by kernel_rfl
section
variable {H : Type} {enc : TypeId × Value → H} {W : World} {base : Nat} {v : Value} {d : DataW H} {p : List MemPlace}
/-- Bytes, wherever they stand. -/
theorem bytes_in {fuel : Nat} {cs : List Value} {x : DataW H × List MemPlace} (h : DataW.trod enc Try.prog W 0 (fun _ => true) true fuel 39 cs = some x) :
    ∃ A n c us, cs = [.slice A n c] ∧ n = (us : List UInt8).length ∧ n ≤ c ∧ c ≤ maxLen ∧ LRd W 0 W.heap.size A (bv us) := by
  rcases open_ints Try.underlying39 Try.underlying5 cells5 h with ⟨rfl, _⟩ | ⟨⟨b, off, spot⟩, l, c, zs, rfl, _, hl, hm, hz, _, hcell, hwf⟩
  · exact ⟨none, 0, 0, [], rfl, rfl, Nat.le_refl _, Nat.zero_le _, fun h0 => absurd h0 (by decide)⟩
  · have hz' : zs.length = c := by simpa using hz
    have hk : ((zs.take l).map fun z => UInt8.ofNat z.toNat).length = l := by rw [List.length_map, List.length_take]; omega
    refine ⟨some ⟨b, off, spot⟩, l, c, (zs.take l).map fun z => UInt8.ofNat z.toNat, rfl, hk.symm, by omega, hm, fun h0 => ?_⟩
    rw [bv_length, hk] at h0
    have hspot : spot = none := by simpa [Addr.add] using World.cell?_spot (hcell 0 (by omega))
    subst hspot
    have hb := World.block_lt_of_cell? _ _ (by rw [← Go.WideShapes.add_plain]; exact hcell 0 (by omega) : W.cell? ⟨b, off + 0, none⟩ = _)
    refine ⟨b, off, rfl, Nat.zero_le _, hb, fun j u hj => ?_⟩
    have hj2 : j < l := by
      have := (List.getElem?_eq_some_iff.1 hj).1
      rw [bv_length, hk] at this; exact this
    have hj3 : j < zs.length := by omega
    rw [← Go.WideShapes.add_plain, hcell j hj3]
    obtain ⟨m, hm1, hm2⟩ := nat_u8 (hwf (zs[j]'hj3) (List.getElem_mem _))
    have e : zs.getD j 0 = (m : Int) := by simp [List.getD, List.getElem?_eq_getElem hj3, hm1]
    rw [e]
    simp only [bv, List.getElem?_map, List.getElem?_take, hj2, if_true] at hj
    rw [List.getElem?_eq_getElem hj3, hm1] at hj
    simp only [Option.map_some, Option.some.injEq, Int.toNat_natCast] at hj
    rw [← hj]
    simp
    omega
theorem fails_fields : ∃ f0 f1 : Field, Try.prog.underlying 42 = some (.struct #[f0, f1]) ∧ oneCellFields Try.prog #[f0, f1] = true ∧ f0.type = 39 ∧ f1.type = 40 :=
  ⟨_, _, Try.underlying42, by kernel_rfl, rfl, rfl⟩
theorem two {α : Type} (l : List α) (h : l.length = 2) : ∃ a b, l = [a, b] := by
  match l, h with
  | [a, b], _ => exact ⟨a, b, rfl⟩
set_option maxRecDepth 100000 in
theorem open_fails (hv : Value.okWide Try.prog W .any base 42 v) (h : DataW.Trod enc Try.prog W 0 (fun _ => true) true 42 v d p) :
    (∃ A0 n0 c0 us A1 n1 c1 ks, v = .agg #[.slice A0 n0 c0, .slice A1 n1 c1] ∧ n0 = (us : List UInt8).length ∧ n0 ≤ 9223372036854775807 ∧ LRd W 0 W.heap.size A0 (bv us) ∧ n1 = (ks : List Int).length ∧ n1 ≤ c1 ∧ c1 ≤ maxLen ∧ LRd W 0 W.heap.size A1 (iv ks)) ∧ (∀ x ∈ p, x.block < W.heap.size) := by
  obtain ⟨cs, rfl, hsz, _⟩ : ∃ cs, v = .agg cs ∧ cs.size = Try.prog.cellsOf 42 ∧ Row.okWide Try.prog W .any base 42 cs := by
    simpa [Value.okWide, Try.underlying42] using hv
  refine ⟨?_, by obtain ⟨m, hm⟩ := h; exact DataW.trod_lt m _ _ _ hm⟩
  obtain ⟨fuel, h⟩ := h
  obtain ⟨f0, f1, hs, hone, t0, t1⟩ := fails_fields
  obtain ⟨ys, n, _, _, hlen, hyl, hf⟩ := DataW.trod_struct hs h
  rw [cellsFails] at hlen
  obtain ⟨c0, c1, hcs⟩ := two _ hlen
  obtain ⟨y0, y1, rfl⟩ := two ys hyl
  obtain ⟨o0, k0⟩ := hone_of hone 0 f0 rfl
  obtain ⟨o1, k1⟩ := hone_of hone 1 f1 rfl
  have g0 := hf 0 f0 rfl
  have g1 := hf 1 f1 rfl
  rw [o0, k0, t0, hcs] at g0
  rw [o1, k1, t1, hcs] at g1
  obtain ⟨A0, n0, q0, us, e0, a1, a2, a3, a4⟩ := bytes_in (show DataW.trod enc Try.prog W 0 (fun _ => true) true n 39 [c0] = some y0 from g0)
  obtain ⟨A1, q1, ks, e1, b1, b2, b3⟩ := ints_in (show DataW.trod enc Try.prog W 0 (fun _ => true) true n 40 [c1] = some y1 from g1)
  injection e0 with e0 _
  injection e1 with e1 _
  subst e0 e1
  have e : cs = #[.slice A0 n0 q0, .slice A1 ks.length q1] := by
    have : cs.toList = [.slice A0 n0 q0, .slice A1 ks.length q1] := by simpa [Value.cells] using hcs
    rw [← Array.toList_inj, this]
  subst e
  exact ⟨A0, n0, q0, us, A1, _, q1, ks, rfl, a1, by unfold maxLen at a3; omega, a4, rfl, b1, b2, b3⟩
end
end Go.Proofs.Ytlbhegicapggeaa.sav
