/- Terminals: what comes in: two or three small numbers by value, bytes. -/
import Derived.Test.YteekihhngjbjgaaVttLawKit
import Derived.HandedShaped
import Derived.ProofKit
import Derived.OpenShut
import Derived.ChangeOld
import Derived.ShutString
import Derived.ChangeSlices
import Derived.SliceStrings
import Derived.Deep.Slices
import Derived.Deep.Fields
namespace Go.Proofs.Yteekihhngjbjgaa.vtt
open Go.ChangeShapes Go.WideShapes Go.ChangeAt Go.RowKit Go.Deep Go.Lib Go.Proofs.Yteekihhngjbjgaa.grd
set_option linter.unusedVariables false
set_option linter.unusedSimpArgs false
set_option linter.unnecessarySimpa false
set_option linter.unusedSectionVars false

theorem own : ownKnob Try.prog.godebug = none := by kernel_rfl
theorem laidOut : laidOutB Try.prog = true := by kernel_rfl
theorem cells5 : Try.prog.cellsOf 5 = 1 := by kernel_rfl
theorem cellsH : Try.prog.cellsOf 49 = 1 := by kernel_rfl
theorem cells2u : Try.prog.cellsOf 48 = 2 := by kernel_rfl
theorem cells3u : Try.prog.cellsOf 60 = 3 := by kernel_rfl
theorem cells2h : Try.prog.cellsOf 53 = 2 := by kernel_rfl
theorem nat_u8 {a : Int} (h : (Lit.int .u8 a).wf = true) : ∃ n : Nat, a = n ∧ n < 256 := by
  simp [Lit.wf, IntKind.min, IntKind.max, IntKind.signed, IntKind.bits] at h
  exact ⟨a.toNat, by omega, by omega⟩
theorem nat_u16 {a : Int} (h : (Lit.int .u16 a).wf = true) : ∃ n : Nat, a = n ∧ n < 65536 := by
  simp [Lit.wf, IntKind.min, IntKind.max, IntKind.signed, IntKind.bits] at h
  exact ⟨a.toNat, by omega, by omega⟩
theorem list2 {α : Type} (l : List α) (h : (⟨l⟩ : Array α).size = 2) : ∃ a b, l = [a, b] := by
  match l, h with
  | [a, b], _ => exact ⟨a, b, rfl⟩
theorem trod_array2 {H : Type} {enc : TypeId × Value → H} {P : Program} {w : World} {base : Nat} {spare : Nat → Bool} {held : Bool} {t e : TypeId} {fuel : Nat} {c0 c1 : Value} {x : DataW H × List MemPlace} (ht : P.underlying t = some (.array 2 e)) (hce : P.cellsOf e = 1)
    (h : DataW.trod enc P w base spare held fuel t [c0, c1] = some x) :
    ∃ y0 y1 n, x = (.agg [y0.1, y1.1], y0.2 ++ y1.2) ∧ DataW.trod enc P w base spare held n e [c0] = some y0 ∧ DataW.trod enc P w base spare held n e [c1] = some y1 := by
  cases fuel with
  | zero => simp [DataW.trod] at h
  | succ n =>
    unfold DataW.trod at h
    rw [ht] at h
    have r2 : List.range 2 = [0, 1] := rfl
    simp [r2, hce] at h
    obtain ⟨_, h⟩ := h
    cases h0 : DataW.trod enc P w base spare held n e [c0] with
    | none => simp [h0] at h
    | some y0 =>
      cases h1 : DataW.trod enc P w base spare held n e [c1] with
      | none => simp [h0, h1] at h
      | some y1 =>
        simp [h0, h1] at h
        exact ⟨y0, y1, n, h.symm, h0, h1⟩
theorem list3 {α : Type} (l : List α) (h : (⟨l⟩ : Array α).size = 3) : ∃ a b c, l = [a, b, c] := by
  match l, h with
  | [a, b, c], _ => exact ⟨a, b, c, rfl⟩
theorem trod_array3 {H : Type} {enc : TypeId × Value → H} {P : Program} {w : World} {base : Nat} {spare : Nat → Bool} {held : Bool} {t e : TypeId} {fuel : Nat} {c0 c1 c2 : Value} {x : DataW H × List MemPlace} (ht : P.underlying t = some (.array 3 e)) (hce : P.cellsOf e = 1)
    (h : DataW.trod enc P w base spare held fuel t [c0, c1, c2] = some x) :
    ∃ y0 y1 y2 n, DataW.trod enc P w base spare held n e [c0] = some y0 ∧ DataW.trod enc P w base spare held n e [c1] = some y1 ∧ DataW.trod enc P w base spare held n e [c2] = some y2 := by
  cases fuel with
  | zero => simp [DataW.trod] at h
  | succ n =>
    unfold DataW.trod at h
    rw [ht] at h
    have r3 : List.range 3 = [0, 1, 2] := rfl
    simp [r3, hce] at h
    obtain ⟨_, h⟩ := h
    cases h0 : DataW.trod enc P w base spare held n e [c0] with
    | none => simp [h0] at h
    | some y0 =>
      cases h1 : DataW.trod enc P w base spare held n e [c1] with
      | none => simp [h0, h1] at h
      | some y1 =>
        cases h2 : DataW.trod enc P w base spare held n e [c2] with
        | none => simp [h0, h1, h2] at h
        | some y2 => exact ⟨y0, y1, y2, n, h0, h1, h2⟩
section
variable {H : Type} {enc : TypeId × Value → H} {W : World} {base : Nat} {v : Value} {d : DataW H} {p : List MemPlace}
set_option maxRecDepth 100000 in
theorem open_u8s (hv : Value.okWide Try.prog W .any base 48 v) (h : DataW.Trod enc Try.prog W 0 (fun _ => true) true 48 v d p) :
    (∃ x y : Nat, v = .agg #[.int .u8 x, .int .u8 y] ∧ x < 256 ∧ y < 256) ∧ (∀ x ∈ p, x.block < W.heap.size) := by
  obtain ⟨cs, rfl, hsz, _⟩ : ∃ cs, v = .agg cs ∧ cs.size = Try.prog.cellsOf 48 ∧ Row.okWide Try.prog W .any base 48 cs := by
    simpa [Value.okWide, Try.underlying48] using hv
  refine ⟨?_, by obtain ⟨m, hm⟩ := h; exact DataW.trod_lt m _ _ _ hm⟩
  rw [cells2u] at hsz
  obtain ⟨l⟩ := cs
  obtain ⟨c0, c1, rfl⟩ := list2 l hsz
  obtain ⟨fuel, hf⟩ := h
  obtain ⟨y0, y1, m, hx, hy0, hy1⟩ := trod_array2 Try.underlying48 cells5 hf
  obtain ⟨a0, e0, _, w0⟩ := DataW.trod_int Try.underlying5 hy0
  obtain ⟨a1, e1, _, w1⟩ := DataW.trod_int Try.underlying5 hy1
  injection e0 with e0 _
  injection e1 with e1 _
  subst e0 e1
  obtain ⟨x, rfl, hx⟩ := nat_u8 w0
  obtain ⟨y, rfl, hy⟩ := nat_u8 w1
  exact ⟨x, y, rfl, hx, hy⟩
set_option maxRecDepth 100000 in
theorem open_u16s (hv : Value.okWide Try.prog W .any base 53 v) (h : DataW.Trod enc Try.prog W 0 (fun _ => true) true 53 v d p) :
    (∃ x y : Nat, v = .agg #[.int .u16 x, .int .u16 y] ∧ x < 65536 ∧ y < 65536) ∧ (∀ x ∈ p, x.block < W.heap.size) := by
  obtain ⟨cs, rfl, hsz, _⟩ : ∃ cs, v = .agg cs ∧ cs.size = Try.prog.cellsOf 53 ∧ Row.okWide Try.prog W .any base 53 cs := by
    simpa [Value.okWide, Try.underlying53] using hv
  refine ⟨?_, by obtain ⟨m, hm⟩ := h; exact DataW.trod_lt m _ _ _ hm⟩
  rw [cells2h] at hsz
  obtain ⟨l⟩ := cs
  obtain ⟨c0, c1, rfl⟩ := list2 l hsz
  obtain ⟨fuel, hf⟩ := h
  obtain ⟨y0, y1, m, hx, hy0, hy1⟩ := trod_array2 Try.underlying53 cellsH hf
  obtain ⟨a0, e0, _, w0⟩ := DataW.trod_int Try.underlying49 hy0
  obtain ⟨a1, e1, _, w1⟩ := DataW.trod_int Try.underlying49 hy1
  injection e0 with e0 _
  injection e1 with e1 _
  subst e0 e1
  obtain ⟨x, rfl, hx⟩ := nat_u16 w0
  obtain ⟨y, rfl, hy⟩ := nat_u16 w1
  exact ⟨x, y, rfl, hx, hy⟩
set_option maxRecDepth 100000 in
theorem open_u8t (hv : Value.okWide Try.prog W .any base 60 v) (h : DataW.Trod enc Try.prog W 0 (fun _ => true) true 60 v d p) :
    (∃ x y z : Nat, v = .agg #[.int .u8 x, .int .u8 y, .int .u8 z] ∧ x < 256 ∧ y < 256 ∧ z < 256) ∧ (∀ x ∈ p, x.block < W.heap.size) := by
  obtain ⟨cs, rfl, hsz, _⟩ : ∃ cs, v = .agg cs ∧ cs.size = Try.prog.cellsOf 60 ∧ Row.okWide Try.prog W .any base 60 cs := by
    simpa [Value.okWide, Try.underlying60] using hv
  refine ⟨?_, by obtain ⟨m, hm⟩ := h; exact DataW.trod_lt m _ _ _ hm⟩
  rw [cells3u] at hsz
  obtain ⟨l⟩ := cs
  obtain ⟨c0, c1, c2, rfl⟩ := list3 l hsz
  obtain ⟨fuel, hf⟩ := h
  obtain ⟨y0, y1, y2, m, hy0, hy1, hy2⟩ := trod_array3 Try.underlying60 cells5 hf
  obtain ⟨a0, e0, _, w0⟩ := DataW.trod_int Try.underlying5 hy0
  obtain ⟨a1, e1, _, w1⟩ := DataW.trod_int Try.underlying5 hy1
  obtain ⟨a2, e2, _, w2⟩ := DataW.trod_int Try.underlying5 hy2
  injection e0 with e0 _
  injection e1 with e1 _
  injection e2 with e2 _
  subst e0 e1 e2
  obtain ⟨x, rfl, hx⟩ := nat_u8 w0
  obtain ⟨y, rfl, hy⟩ := nat_u8 w1
  obtain ⟨z, rfl, hz⟩ := nat_u8 w2
  exact ⟨x, y, z, rfl, hx, hy, hz⟩
theorem bytes_in {fuel : Nat} {cs : List Value} {x : DataW H × List MemPlace} (h : DataW.trod enc Try.prog W 0 (fun _ => true) true fuel 39 cs = some x) :
    ∃ v l, cs = [v] ∧ Gl W 0 W.heap.size v l := by
  rcases open_ints Try.underlying39 Try.underlying5 cells5 h with ⟨rfl, _⟩ | ⟨⟨b, off, spot⟩, l, c', zs, rfl, _, hl, hm, hz, _, hcell, hwf⟩
  · exact ⟨_, [], rfl, none, 0, rfl, fun _ => rfl, Nat.zero_le _, VRd.nil⟩
  · have hz' : zs.length = c' := by simpa using hz
    have hk : ((zs.take l).map fun z => UInt8.ofNat z.toNat).length = l := by rw [List.length_map, List.length_take]; omega
    refine ⟨_, (zs.take l).map fun z => UInt8.ofNat z.toNat, rfl, some ⟨b, off, spot⟩, c', by rw [hk], (fun h => (by cases h)), by rw [hk]; omega, fun h0 => ?_⟩
    rw [List.length_map, hk] at h0
    have hspot : spot = none := by simpa [Addr.add] using World.cell?_spot (hcell 0 (by omega))
    subst hspot
    have hb := World.block_lt_of_cell? _ _ (by rw [← Go.WideShapes.add_plain]; exact hcell 0 (by omega) : W.cell? ⟨b, off + 0, none⟩ = _)
    refine ⟨b, off, rfl, Nat.zero_le _, hb, fun j u hj => ?_⟩
    have hj2 : j < l := by
      have := (List.getElem?_eq_some_iff.1 hj).1
      rw [List.length_map, hk] at this; exact this
    have hj3 : j < zs.length := by omega
    rw [← Go.WideShapes.add_plain, hcell j hj3]
    obtain ⟨m, hm1, hm2⟩ := nat_u8 (hwf (zs[j]'hj3) (List.getElem_mem _))
    have e : zs.getD j 0 = (m : Int) := by simp [List.getD, List.getElem?_eq_getElem hj3, hm1]
    rw [e]
    simp only [List.getElem?_map, List.getElem?_take, hj2, if_true] at hj
    rw [List.getElem?_eq_getElem hj3, hm1] at hj
    simp only [Option.map_some, Option.some.injEq, Int.toNat_natCast] at hj
    rw [← hj]
    unfold u8
    simp
    omega
set_option maxRecDepth 100000 in
theorem open_bytes (hv : Value.okWide Try.prog W .any base 39 v) (h : DataW.Trod enc Try.prog W 0 (fun _ => true) true 39 v d p) :
    (∃ A n c l, v = .slice A n c ∧ n = (l : List UInt8).length ∧ n ≤ maxLen ∧ VRd W 0 W.heap.size A (l.map u8)) ∧ (∀ x ∈ p, x.block < W.heap.size) := by
  obtain ⟨A, n, c, rfl⟩ := okWide_slice Try.underlying39 hv
  refine ⟨?_, by obtain ⟨m, hm⟩ := h; exact DataW.trod_lt m _ _ _ hm⟩
  obtain ⟨fuel, hf⟩ := h
  obtain ⟨v, l, e, A', c', hv', _, hm, hr⟩ := bytes_in hf
  simp [Value.cells] at e
  rw [hv'] at e
  injection e with e1 e2 e3
  subst e1 e2 e3
  exact ⟨_, _, _, l, rfl, rfl, hm, hr⟩
end
end Go.Proofs.Yteekihhngjbjgaa.vtt
