/- What comes in: a list of texts that is read as data, said by what stands behind its address. -/
import Derived.Test.YteekihhngjbjgaaWords
import Derived.ShutString
import Derived.ChangeOld
import Derived.SliceStrings
namespace Go.Proofs.Yteekihhngjbjgaa
open Go.ChangeShapes Go.WideShapes Go.ChangeAt Go.RowKit

theorem own : ownKnob Try.prog.godebug = none := by kernel_rfl
theorem laidOut : laidOutB Try.prog = true := by kernel_rfl

/-- A list that came in: its lines, each of a length that may be. -/
def IsList (w : World) (A : Option Addr) (n c : Nat) (zs : List ByteArray) : Prop :=
  n = zs.length ∧ (A = none → c = 0) ∧ n ≤ maxLen ∧ (∀ z ∈ zs, z.size ≤ maxLen) ∧ SRd w w.heap.size A zs

set_option maxRecDepth 100000 in
theorem open_list {H : Type} {enc : TypeId × Value → H} {W : World} {base : Nat} {v : Value} {d : DataW H} {p : List MemPlace}
    (hv : Value.okWide Try.prog W .any base 22 v) (h : DataW.Trod enc Try.prog W 0 (fun _ => true) true 22 v d p) :
    (∃ A n c zs, v = .slice A n c ∧ IsList W A n c zs) ∧ (∀ x ∈ p, x.block < W.heap.size) := by
  obtain ⟨A, n, c, rfl⟩ := okWide_slice Try.underlying22 hv
  refine ⟨⟨A, n, c, ?_⟩, by obtain ⟨m, hm⟩ := h; exact DataW.trod_lt m _ _ _ hm⟩
  obtain ⟨fuel, hf⟩ := h
  rcases open_strings Try.underlying22 Try.underlying9 (by kernel_rfl) hf with ⟨hcs, _⟩ | ⟨x, l, c', ss, hcs, _, hl, hm, hz, _, hcell, hws⟩
  · simp [Value.cells] at hcs
    obtain ⟨rfl, rfl, rfl⟩ := hcs
    exact ⟨[], rfl, rfl, fun _ => rfl, Nat.zero_le _, by simp, SRd.nil⟩
  · simp [Value.cells] at hcs
    obtain ⟨rfl, rfl, rfl⟩ := hcs
    have hz' : ss.length = c := by simpa using hz
    refine ⟨ss.take n, rfl, by rw [List.length_take]; omega, fun h => by (cases h), by omega, fun z hz => hws z (List.mem_of_mem_take hz), fun h0 => ?_⟩
    obtain ⟨b, off, spot⟩ := x
    have hn : (ss.take n).length = n := by rw [List.length_take]; omega
    rw [hn] at h0
    have hspot : spot = none := by simpa [Addr.add] using World.cell?_spot (hcell 0 (by omega))
    subst hspot
    have hb := World.block_lt_of_cell? _ _ (by rw [← Go.WideShapes.add_plain]; exact hcell 0 (by omega) : W.cell? ⟨b, off + 0, none⟩ = _)
    refine ⟨b, off, rfl, hb, fun j hj => ?_⟩
    rw [hn] at hj
    rw [← Go.WideShapes.add_plain, hcell j (by omega)]
    have : (ss.take n).getD j ByteArray.empty = ss.getD j ByteArray.empty := by simp [hj]
    rw [this]
end Go.Proofs.Yteekihhngjbjgaa
