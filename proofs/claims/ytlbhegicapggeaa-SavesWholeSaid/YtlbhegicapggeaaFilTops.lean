/- Files: what comes in: a list of things to do, a list of numbers, two texts. -/
import Derived.Test.YtlbhegicapggeaaFilMuch
import Derived.Deep.Slices
import Derived.Deep.Fields
import Derived.ChangeSlices
import Derived.ShutString
import Derived.ChangeOld
import Derived.SliceStrings
namespace Go.Proofs.Ytlbhegicapggeaa.fil
open Go.ChangeShapes Go.WideShapes Go.ChangeAt Go.RowKit Go.Deep Go.Lib
set_option linter.unusedVariables false
set_option linter.unusedSimpArgs false
set_option linter.unnecessarySimpa false
set_option linter.unusedSectionVars false

theorem own : ownKnob Try.prog.godebug = none := by kernel_rfl
theorem laidOut : laidOutB Try.prog = true := by kernel_rfl
theorem cells9 : Try.prog.cellsOf 9 = 1 := by kernel_rfl
theorem cells3 : Try.prog.cellsOf 3 = 1 := by kernel_rfl
theorem nat_u16 {a : Int} (h : (Lit.int .u16 a).wf = true) : ∃ n : Nat, a = n ∧ n < 65536 := by
  simp [Lit.wf, IntKind.min, IntKind.max, IntKind.signed, IntKind.bits] at h
  exact ⟨a.toNat, by omega, by omega⟩
theorem nat_u8 {a : Int} (h : (Lit.int .u8 a).wf = true) : ∃ n : Nat, a = n ∧ n < 256 := by
  simp [Lit.wf, IntKind.min, IntKind.max, IntKind.signed, IntKind.bits] at h
  exact ⟨a.toNat, by omega, by omega⟩
theorem int_i64 {a : Int} (h : (Lit.int .i64 a).wf = true) : -9223372036854775808 ≤ a ∧ a ≤ 9223372036854775807 := by
  simp [Lit.wf, IntKind.min, IntKind.max, IntKind.signed, IntKind.bits] at h
  exact ⟨by omega, by omega⟩

/-- What stands at each place, as one list. -/
theorem each_list {α : Type} (P : Nat → α → Prop) : ∀ n : Nat, (∀ i, i < n → ∃ x, P i x) → ∃ l : List α, l.length = n ∧ ∀ i x, l[i]? = some x → P i x
  | 0, _ => ⟨[], rfl, fun i x h => by simp at h⟩
  | n + 1, h => by
    obtain ⟨l, h1, h2⟩ := each_list P n fun i hi => h i (by omega)
    obtain ⟨y, hy⟩ := h n (by omega)
    refine ⟨l ++ [y], by simp [h1], fun i x hx => ?_⟩
    by_cases hi : i < n
    · rw [List.getElem?_append_left (by omega)] at hx
      exact h2 i x hx
    · rw [List.getElem?_append_right (by omega)] at hx
      have : i - l.length = 0 := by
        have := (List.getElem?_eq_some_iff.1 hx).1
        simp at this; omega
      rw [this] at hx
      simp at hx
      subst hx
      have : i = n := by omega
      rw [this]; exact hy

section
variable {H : Type} {enc : TypeId × Value → H} {W : World} {base : Nat} {v : Value} {d : DataW H} {p : List MemPlace}

/-- A list of numbers, wherever it stands. -/
theorem ints_in {fuel : Nat} {cs : List Value} {x : DataW H × List MemPlace} (h : DataW.trod enc Try.prog W 0 (fun _ => true) true fuel 40 cs = some x) :
    ∃ A c ks, cs = [.slice A (ks : List Int).length c] ∧ ks.length ≤ c ∧ c ≤ maxLen ∧ LRd W 0 W.heap.size A (iv ks) := by
  rcases open_ints Try.underlying40 Try.underlying3 cells3 h with ⟨rfl, _⟩ | ⟨⟨b, off, spot⟩, l, c, zs, rfl, _, hl, hm, hz, _, hcell, _⟩
  · exact ⟨none, 0, [], rfl, Nat.le_refl _, Nat.zero_le _, fun h0 => absurd h0 (by decide)⟩
  · have hz' : zs.length = c := by simpa using hz
    have hk : (zs.take l).length = l := by rw [List.length_take]; omega
    refine ⟨some ⟨b, off, spot⟩, c, zs.take l, by rw [hk], by omega, hm, fun h0 => ?_⟩
    rw [iv_length, hk] at h0
    have hspot : spot = none := by simpa [Addr.add] using World.cell?_spot (hcell 0 (by omega))
    subst hspot
    have hb := World.block_lt_of_cell? _ _ (by rw [← Go.WideShapes.add_plain]; exact hcell 0 (by omega) : W.cell? ⟨b, off + 0, none⟩ = _)
    refine ⟨b, off, rfl, Nat.zero_le _, hb, fun j u hj => ?_⟩
    have hj2 : j < l := by
      have := (List.getElem?_eq_some_iff.1 hj).1
      rw [iv_length, hk] at this; exact this
    rw [← Go.WideShapes.add_plain, hcell j (by omega)]
    simp only [iv, List.getElem?_map, List.getElem?_take, hj2, if_true] at hj
    rw [List.getElem?_eq_getElem (by omega)] at hj
    simpa [List.getD, List.getElem?_eq_getElem (show j < zs.length by omega)] using hj
set_option maxRecDepth 100000 in
theorem open_nums (hv : Value.okWide Try.prog W .any base 40 v) (h : DataW.Trod enc Try.prog W 0 (fun _ => true) true 40 v d p) :
    (∃ A n c ks, v = .slice A n c ∧ n = (ks : List Int).length ∧ n ≤ c ∧ c ≤ maxLen ∧ LRd W 0 W.heap.size A (iv ks)) ∧ (∀ x ∈ p, x.block < W.heap.size) := by
  obtain ⟨A, n, c, rfl⟩ := okWide_slice Try.underlying40 hv
  refine ⟨?_, by obtain ⟨m, hm⟩ := h; exact DataW.trod_lt m _ _ _ hm⟩
  obtain ⟨fuel, hf⟩ := h
  obtain ⟨A', c', ks, hcs, h1, h2, h3⟩ := ints_in hf
  simp [Value.cells] at hcs
  obtain ⟨rfl, rfl, rfl⟩ := hcs
  exact ⟨_, _, _, ks, rfl, rfl, h1, h2, h3⟩

theorem six {α : Type} (l : List α) (h : l.length = 6) : ∃ a b c d e f, l = [a, b, c, d, e, f] := by
  match l, h with
  | [a, b, c, d, e, f], _ => exact ⟨a, b, c, d, e, f, rfl⟩
end
end Go.Proofs.Ytlbhegicapggeaa.fil
