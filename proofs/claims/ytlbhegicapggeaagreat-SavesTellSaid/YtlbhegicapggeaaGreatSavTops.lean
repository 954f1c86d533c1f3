/- Saves: what comes in: a list of texts; bytes and numbers, in a struct by value. -/
import Derived.Test.YtlbhegicapggeaaGreatFilPair
namespace Go.Proofs.YtlbhegicapggeaaGreat.sav
open Go.ChangeShapes Go.WideShapes Go.ChangeAt Go.RowKit Go.Deep Go.Lib fil
set_option linter.unusedVariables false
set_option linter.unusedSimpArgs false
set_option linter.unnecessarySimpa false
set_option linter.unusedSectionVars false

/-- A list that came in: its lines, each of a length that may be. -/
def IsList (w : World) (A : Option Addr) (n c : Nat) (zs : List ByteArray) : Prop :=
  n = zs.length ∧ (A = none → c = 0) ∧ n ≤ maxLen ∧ (∀ z ∈ zs, z.size ≤ maxLen) ∧ SRd w w.heap.size A zs

set_option maxRecDepth 100000 in
theorem open_list {H : Type} {enc : TypeId × Value → H} {W : World} {base : Nat} {v : Value} {d : DataW H} {p : List MemPlace}
    (hv : Value.okWide Tryz.prog W .any base 65 v) (h : DataW.Trod enc Tryz.prog W 0 (fun _ => true) true 65 v d p) :
    (∃ A n c zs, v = .slice A n c ∧ IsList W A n c zs) ∧ (∀ x ∈ p, x.block < W.heap.size) := by
  obtain ⟨A, n, c, rfl⟩ := okWide_slice Tryz.underlying65 hv
  refine ⟨⟨A, n, c, ?_⟩, by obtain ⟨m, hm⟩ := h; exact DataW.trod_lt m _ _ _ hm⟩
  obtain ⟨fuel, hf⟩ := h
  rcases open_strings Tryz.underlying65 Tryz.underlying9 (by kernel_rfl) hf with ⟨hcs, _⟩ | ⟨x, l, c', ss, hcs, _, hl, hm, hz, _, hcell, hws⟩
  · simp [Value.cells] at hcs
    obtain ⟨rfl, rfl, rfl⟩ := hcs
    exact ⟨[], rfl, rfl, fun _ => rfl, Nat.zero_le _, by simp, SRd.nil⟩
  · simp [Value.cells] at hcs
    obtain ⟨rfl, rfl, rfl⟩ := hcs
    have hz' : ss.length = c := by simpa using hz
    refine ⟨ss.take n, rfl, by rw [List.length_take]; omega, fun h => by (cases h), by omega, fun z hz => hws z (List.mem_of_mem_take hz), fun h0 => ?_⟩
    obtain ⟨b, off, spot⟩ := x
    have hn : (ss.take n).length = n := by rw [List.length_take]; omega
    rw [hn] at h0
    have hspot : spot = none := by simpa [Addr.add] using World.cell?_spot (hcell 0 (by omega))
    subst hspot
    have hb := World.block_lt_of_cell? _ _ (by rw [← Go.WideShapes.add_plain]; exact hcell 0 (by omega) : W.cell? ⟨b, off + 0, none⟩ = _)
    refine ⟨b, off, rfl, hb, fun j hj => ?_⟩
    rw [hn] at hj
    rw [← Go.WideShapes.add_plain, hcell j (by omega)]
    have : (ss.take n).getD j ByteArray.empty = ss.getD j ByteArray.empty := by simp [hj]
    rw [this]

theorem cells5 : Tryz.prog.cellsOf 5 = 1 := by kernel_rfl
section
variable {H : Type} {enc : TypeId × Value → H} {W : World} {base : Nat} {v : Value} {d : DataW H} {p : List MemPlace}
/-- Bytes, wherever they stand. -/
theorem bytes_in {fuel : Nat} {cs : List Value} {x : DataW H × List MemPlace} (h : DataW.trod enc Tryz.prog W 0 (fun _ => true) true fuel 23 cs = some x) :
    ∃ A n c us, cs = [.slice A n c] ∧ n = (us : List UInt8).length ∧ n ≤ c ∧ c ≤ maxLen ∧ LRd W 0 W.heap.size A (bv us) := by
  rcases open_ints Tryz.underlying23 Tryz.underlying5 cells5 h with ⟨rfl, _⟩ | ⟨⟨b, off, spot⟩, l, c, zs, rfl, _, hl, hm, hz, _, hcell, hwf⟩
  · exact ⟨none, 0, 0, [], rfl, rfl, Nat.le_refl _, Nat.zero_le _, fun h0 => absurd h0 (by decide)⟩
  · have hz' : zs.length = c := by simpa using hz
    have hk : ((zs.take l).map fun z => UInt8.ofNat z.toNat).length = l := by rw [List.length_map, List.length_take]; omega
    refine ⟨some ⟨b, off, spot⟩, l, c, (zs.take l).map fun z => UInt8.ofNat z.toNat, rfl, hk.symm, by omega, hm, fun h0 => ?_⟩
    rw [bv_length, hk] at h0
    have hspot : spot = none := by simpa [Addr.add] using World.cell?_spot (hcell 0 (by omega))
    subst hspot
    have hb := World.block_lt_of_cell? _ _ (by rw [← Go.WideShapes.add_plain]; exact hcell 0 (by omega) : W.cell? ⟨b, off + 0, none⟩ = _)
    refine ⟨b, off, rfl, Nat.zero_le _, hb, fun j u hj => ?_⟩
    have hj2 : j < l := by
      have := (List.getElem?_eq_some_iff.1 hj).1
      rw [bv_length, hk] at this; exact this
    have hj3 : j < zs.length := by omega
    rw [← Go.WideShapes.add_plain, hcell j hj3]
    obtain ⟨m, hm1, hm2⟩ := nat_u8 (hwf (zs[j]'hj3) (List.getElem_mem _))
    have e : zs.getD j 0 = (m : Int) := by simp [List.getD, List.getElem?_eq_getElem hj3, hm1]
    rw [e]
    simp only [bv, List.getElem?_map, List.getElem?_take, hj2, if_true] at hj
    rw [List.getElem?_eq_getElem hj3, hm1] at hj
    simp only [Option.map_some, Option.some.injEq, Int.toNat_natCast] at hj
    rw [← hj]
    simp
    omega
theorem two {α : Type} (l : List α) (h : l.length = 2) : ∃ a b, l = [a, b] := by
  match l, h with
  | [a, b], _ => exact ⟨a, b, rfl⟩
end
end Go.Proofs.YtlbhegicapggeaaGreat.sav
