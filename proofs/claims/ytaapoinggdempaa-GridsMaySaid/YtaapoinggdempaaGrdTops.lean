/- Grids: what comes in: a grid by value, a cell by value, a list of cells. -/
import Derived.Test.YtaapoinggdempaaGrdLawPuts
import Derived.Deep.Slices
import Derived.Deep.Fields
import Derived.ChangeSlices
import Derived.ShutString
import Derived.ChangeOld
import Derived.SliceStrings
import Derived.HandedShaped
import Derived.ProofKit
import Derived.OpenShut
namespace Go.Proofs.Ytaapoinggdempaa.grd
open Go.ChangeShapes Go.WideShapes Go.ChangeAt Go.RowKit Go.Deep Go.Lib
set_option linter.unusedVariables false
set_option linter.unusedSimpArgs false
set_option linter.unnecessarySimpa false
set_option linter.unusedSectionVars false

theorem own : ownKnob Try.prog.godebug = none := by kernel_rfl
theorem laidOut : laidOutB Try.prog = true := by kernel_rfl
theorem cells5 : Try.prog.cellsOf 5 = 1 := by kernel_rfl
theorem cells32 : Try.prog.cellsOf 32 = 1 := by kernel_rfl
theorem cellsCell : Try.prog.cellsOf 42 = 3 := by kernel_rfl
theorem cellsGrid : Try.prog.cellsOf 24 = 5 := by kernel_rfl
theorem nat_u8 {a : Int} (h : (Lit.int .u8 a).wf = true) : ∃ n : Nat, a = n ∧ n < 256 := by
  simp [Lit.wf, IntKind.min, IntKind.max, IntKind.signed, IntKind.bits] at h
  exact ⟨a.toNat, by omega, by omega⟩
theorem byte_u8 {a : Int} (h : (Lit.int .u8 a).wf = true) : ∃ b : UInt8, a = (b.toNat : Int) := by
  obtain ⟨n, rfl, hn⟩ := nat_u8 h
  exact ⟨UInt8.ofNat n, by simp; omega⟩
theorem bnd_u8 {a : Int} (h : (Lit.int .u8 a).wf = true) : 0 ≤ a ∧ a ≤ 255 := by
  obtain ⟨n, rfl, hn⟩ := nat_u8 h
  omega
/-- What stands at each place, as one list. -/
theorem each_list {α : Type} (P : Nat → α → Prop) : ∀ n : Nat, (∀ i, i < n → ∃ x, P i x) → ∃ l : List α, l.length = n ∧ ∀ (i : Nat) x, l[i]? = some x → P i x
  | 0, _ => ⟨[], rfl, fun i x h => by simp at h⟩
  | n + 1, h => by
    obtain ⟨l, h1, h2⟩ := each_list P n fun i hi => h i (by omega)
    obtain ⟨y, hy⟩ := h n (by omega)
    refine ⟨l ++ [y], by simp [h1], fun i x hx => ?_⟩
    by_cases hi : i < n
    · rw [List.getElem?_append_left (by omega)] at hx
      exact h2 i x hx
    · rw [List.getElem?_append_right (by omega)] at hx
      have : i - l.length = 0 := by
        have := (List.getElem?_eq_some_iff.1 hx).1
        simp at this; omega
      rw [this] at hx
      simp at hx
      subst hx
      have : i = n := by omega
      rw [this]; exact hy
theorem three {α : Type} (l : List α) (h : l.length = 3) : ∃ a b c, l = [a, b, c] := by
  match l, h with
  | [a, b, c], _ => exact ⟨a, b, c, rfl⟩
theorem five {α : Type} (l : List α) (h : l.length = 5) : ∃ a b c d e, l = [a, b, c, d, e] := by
  match l, h with
  | [a, b, c, d, e], _ => exact ⟨a, b, c, d, e, rfl⟩
section
variable {H : Type} {enc : TypeId × Value → H} {W : World} {base : Nat} {v : Value} {d : DataW H} {p : List MemPlace}
theorem bytes_in {fuel : Nat} {cs : List Value} {x : DataW H × List MemPlace} (h : DataW.trod enc Try.prog W 0 (fun _ => true) true fuel 32 cs = some x) :
    ∃ v l, cs = [v] ∧ Gl W 0 W.heap.size v l := by
  rcases open_ints Try.underlying32 Try.underlying5 cells5 h with ⟨rfl, _⟩ | ⟨⟨b, off, spot⟩, l, c', zs, rfl, _, hl, hm, hz, _, hcell, hwf⟩
  · exact ⟨_, [], rfl, none, 0, rfl, fun _ => rfl, Nat.zero_le _, VRd.nil⟩
  · have hz' : zs.length = c' := by simpa using hz
    have hk : ((zs.take l).map fun z => UInt8.ofNat z.toNat).length = l := by rw [List.length_map, List.length_take]; omega
    refine ⟨_, (zs.take l).map fun z => UInt8.ofNat z.toNat, rfl, some ⟨b, off, spot⟩, c', by rw [hk], (fun h => (by cases h)), by rw [hk]; omega, fun h0 => ?_⟩
    rw [List.length_map, hk] at h0
    have hspot : spot = none := by simpa [Addr.add] using World.cell?_spot (hcell 0 (by omega))
    subst hspot
    have hb := World.block_lt_of_cell? _ _ (by rw [← Go.WideShapes.add_plain]; exact hcell 0 (by omega) : W.cell? ⟨b, off + 0, none⟩ = _)
    refine ⟨b, off, rfl, Nat.zero_le _, hb, fun j u hj => ?_⟩
    have hj2 : j < l := by
      have := (List.getElem?_eq_some_iff.1 hj).1
      rw [List.length_map, hk] at this; exact this
    have hj3 : j < zs.length := by omega
    rw [← Go.WideShapes.add_plain, hcell j hj3]
    obtain ⟨m, hm1, hm2⟩ := nat_u8 (hwf (zs[j]'hj3) (List.getElem_mem _))
    have e : zs.getD j 0 = (m : Int) := by simp [List.getD, List.getElem?_eq_getElem hj3, hm1]
    rw [e]
    simp only [List.getElem?_map, List.getElem?_take, hj2, if_true] at hj
    rw [List.getElem?_eq_getElem hj3, hm1] at hj
    simp only [Option.map_some, Option.some.injEq, Int.toNat_natCast] at hj
    rw [← hj]
    unfold u8
    simp
    omega
set_option maxRecDepth 100000 in
theorem rows_in {fuel : Nat} {cs : List Value} {x : DataW H × List MemPlace} (h : DataW.trod enc Try.prog W 0 (fun _ => true) true fuel 22 cs = some x) :
    ∃ A n c ls, cs = [.slice A n c] ∧ Gr W 0 W.heap.size A n c ls := by
  rcases open_slice Try.underlying22 h with ⟨rfl, _⟩ | ⟨⟨b, off, spot⟩, l, cap, m, fu, D, Pl, rfl, _, hl, hm, hmm, _, hi⟩
  · exact ⟨none, 0, 0, [], rfl, Gr.zero⟩
  · rw [cells32] at hi
    have hmc : m = cap := by simpa using hmm
    obtain ⟨vs, hvl, hvs⟩ := each_list (fun i (y : Value × List UInt8) => W.cell? ((⟨b, off, spot⟩ : Addr).add i) = some y.1 ∧ Gl W 0 W.heap.size y.1 y.2) l (fun i hin => by
      obtain ⟨cs', hc, ht'⟩ := hi i (by omega)
      obtain ⟨v, bl, rfl, hg⟩ := bytes_in ht'
      obtain ⟨_, _, hat⟩ := World.cells?_some hc
      refine ⟨(v, bl), ?_, hg⟩
      have := hat 0 (by simp)
      simpa [Go.Deep.add_add] using this)
    refine ⟨_, l, cap, vs.map Prod.snd, rfl, ⟨by rw [List.length_map]; exact hvl.symm, (fun h => (by cases h)), by omega, vs.map Prod.fst, by simp, fun h0 => ?_, fun i v bl h1 h2 => ?_⟩⟩
    · rw [List.length_map, hvl] at h0
      obtain ⟨y0, hy0⟩ : ∃ y, vs[0]? = some y := ⟨vs[0]'(by omega), List.getElem?_eq_getElem _⟩
      have hc0 := (hvs 0 y0 hy0).1
      have hspot : spot = none := by simpa [Addr.add] using World.cell?_spot hc0
      subst hspot
      have hb := World.block_lt_of_cell? _ _ (by rw [← Go.WideShapes.add_plain]; exact hc0 : W.cell? ⟨b, off + 0, none⟩ = _)
      refine ⟨b, off, rfl, Nat.zero_le _, hb, fun j u hj => ?_⟩
      rw [List.getElem?_map] at hj
      cases hy : vs[j]? with
      | none => rw [hy] at hj; cases hj
      | some y =>
        rw [hy, Option.map_some, Option.some.injEq] at hj
        rw [← Go.WideShapes.add_plain, (hvs j y hy).1, hj]
    · rw [List.getElem?_map] at h1 h2
      cases hy : vs[i]? with
      | none => rw [hy] at h1; cases h1
      | some y =>
        rw [hy, Option.map_some, Option.some.injEq] at h1 h2
        rw [← h1, ← h2]
        exact (hvs i y hy).2

theorem grid_fields : ∃ f0 f1 f2 f3 f4 : Field, Try.prog.underlying 24 = some (.struct #[f0, f1, f2, f3, f4]) ∧ oneCellFields Try.prog #[f0, f1, f2, f3, f4] = true ∧ f0.type = 3 ∧ f1.type = 3 ∧ f2.type = 22 ∧ f3.type = 3 ∧ f4.type = 3 :=
  ⟨_, _, _, _, _, Try.underlying24, by kernel_rfl, rfl, rfl, rfl, rfl, rfl⟩
theorem grid_in {fuel : Nat} {cs : List Value} {x : DataW H × List MemPlace} (h : DataW.trod enc Try.prog W 0 (fun _ => true) true fuel 24 cs = some x) :
    ∃ R C r k A n c ls, cs = [.int .i64 R, .int .i64 C, .slice A n c, .int .i64 r, .int .i64 k] ∧ Gr W 0 W.heap.size A n c ls := by
  obtain ⟨f0, f1, f2, f3, f4, hs, hone, t0, t1, t2, t3, t4⟩ := grid_fields
  obtain ⟨ys, n, _, _, hlen, hyl, hf⟩ := DataW.trod_struct hs h
  rw [cellsGrid] at hlen
  obtain ⟨c0, c1, c2, c3, c4, rfl⟩ := five cs hlen
  obtain ⟨y0, y1, y2, y3, y4, rfl⟩ := five ys hyl
  obtain ⟨o0, k0⟩ := hone_of hone 0 f0 rfl
  obtain ⟨o1, k1⟩ := hone_of hone 1 f1 rfl
  obtain ⟨o2, k2⟩ := hone_of hone 2 f2 rfl
  obtain ⟨o3, k3⟩ := hone_of hone 3 f3 rfl
  obtain ⟨o4, k4⟩ := hone_of hone 4 f4 rfl
  have g0 := hf 0 f0 rfl
  have g1 := hf 1 f1 rfl
  have g2 := hf 2 f2 rfl
  have g3 := hf 3 f3 rfl
  have g4 := hf 4 f4 rfl
  rw [o0, k0, t0] at g0
  rw [o1, k1, t1] at g1
  rw [o2, k2, t2] at g2
  rw [o3, k3, t3] at g3
  rw [o4, k4, t4] at g4
  obtain ⟨a0, e0, _, w0⟩ := DataW.trod_int Try.underlying3 (show DataW.trod enc Try.prog W 0 (fun _ => true) true n 3 [c0] = some y0 from g0)
  obtain ⟨a1, e1, _, w1⟩ := DataW.trod_int Try.underlying3 (show DataW.trod enc Try.prog W 0 (fun _ => true) true n 3 [c1] = some y1 from g1)
  obtain ⟨A, l, c, ls, e2, hG⟩ := rows_in (show DataW.trod enc Try.prog W 0 (fun _ => true) true n 22 [c2] = some y2 from g2)
  obtain ⟨a3, e3, _, w3⟩ := DataW.trod_int Try.underlying3 (show DataW.trod enc Try.prog W 0 (fun _ => true) true n 3 [c3] = some y3 from g3)
  obtain ⟨a4, e4, _, w4⟩ := DataW.trod_int Try.underlying3 (show DataW.trod enc Try.prog W 0 (fun _ => true) true n 3 [c4] = some y4 from g4)
  injection e0 with e0 _
  injection e1 with e1 _
  injection e2 with e2 _
  injection e3 with e3 _
  injection e4 with e4 _
  subst e0 e1 e2 e3 e4
  exact ⟨a0, a1, a3, a4, A, l, c, ls, rfl, hG⟩
set_option maxRecDepth 100000 in
theorem open_grid (hv : Value.okWide Try.prog W .any base 24 v) (h : DataW.Trod enc Try.prog W 0 (fun _ => true) true 24 v d p) :
    (∃ R C r k A n c ls, v = .agg #[.int .i64 R, .int .i64 C, .slice A n c, .int .i64 r, .int .i64 k] ∧ Gr W 0 W.heap.size A n c ls) ∧ (∀ x ∈ p, x.block < W.heap.size) := by
  obtain ⟨cs, rfl, hsz, _⟩ : ∃ cs, v = .agg cs ∧ cs.size = Try.prog.cellsOf 24 ∧ Row.okWide Try.prog W .any base 24 cs := by
    simpa [Value.okWide, Try.underlying24] using hv
  refine ⟨?_, by obtain ⟨m, hm⟩ := h; exact DataW.trod_lt m _ _ _ hm⟩
  obtain ⟨fuel, h⟩ := h
  obtain ⟨R, C, r, k, A, n, c, ls, e, hG⟩ := grid_in h
  refine ⟨R, C, r, k, A, n, c, ls, ?_, hG⟩
  have e' : cs.toList = [.int .i64 R, .int .i64 C, .slice A n c, .int .i64 r, .int .i64 k] := by simpa [Value.cells] using e
  have : cs = #[.int .i64 R, .int .i64 C, .slice A n c, .int .i64 r, .int .i64 k] := by rw [← Array.toList_inj, e']
  rw [this]

theorem cell_fields : ∃ f0 f1 f2 : Field, Try.prog.underlying 42 = some (.struct #[f0, f1, f2]) ∧ oneCellFields Try.prog #[f0, f1, f2] = true ∧ f0.type = 3 ∧ f1.type = 3 ∧ f2.type = 5 :=
  ⟨_, _, _, Try.underlying42, by kernel_rfl, rfl, rfl, rfl⟩
def Cl'.cells (x : Cl') : List Value := [.int .i64 x.r, .int .i64 x.c, .int .u8 (x.b.toNat : Int)]
theorem cell_in {fuel : Nat} {cs : List Value} {x : DataW H × List MemPlace} (h : DataW.trod enc Try.prog W 0 (fun _ => true) true fuel 42 cs = some x) :
    ∃ t : Cl', cs = t.cells := by
  obtain ⟨f0, f1, f2, hs, hone, t0, t1, t2⟩ := cell_fields
  obtain ⟨ys, n, _, _, hlen, hyl, hf⟩ := DataW.trod_struct hs h
  rw [cellsCell] at hlen
  obtain ⟨c0, c1, c2, rfl⟩ := three cs hlen
  obtain ⟨y0, y1, y2, rfl⟩ := three ys hyl
  obtain ⟨o0, k0⟩ := hone_of hone 0 f0 rfl
  obtain ⟨o1, k1⟩ := hone_of hone 1 f1 rfl
  obtain ⟨o2, k2⟩ := hone_of hone 2 f2 rfl
  have g0 := hf 0 f0 rfl
  have g1 := hf 1 f1 rfl
  have g2 := hf 2 f2 rfl
  rw [o0, k0, t0] at g0
  rw [o1, k1, t1] at g1
  rw [o2, k2, t2] at g2
  obtain ⟨a0, e0, _, w0⟩ := DataW.trod_int Try.underlying3 (show DataW.trod enc Try.prog W 0 (fun _ => true) true n 3 [c0] = some y0 from g0)
  obtain ⟨a1, e1, _, w1⟩ := DataW.trod_int Try.underlying3 (show DataW.trod enc Try.prog W 0 (fun _ => true) true n 3 [c1] = some y1 from g1)
  obtain ⟨a2, e2, _, w2⟩ := DataW.trod_int Try.underlying5 (show DataW.trod enc Try.prog W 0 (fun _ => true) true n 5 [c2] = some y2 from g2)
  obtain ⟨b, rfl⟩ := byte_u8 w2
  injection e0 with e0 _
  injection e1 with e1 _
  injection e2 with e2 _
  subst e0 e1 e2
  exact ⟨⟨a0, a1, b⟩, rfl⟩
set_option maxRecDepth 100000 in
theorem open_cell (hv : Value.okWide Try.prog W .any base 42 v) (h : DataW.Trod enc Try.prog W 0 (fun _ => true) true 42 v d p) :
    (∃ t : Cl', v = .agg #[.int .i64 t.r, .int .i64 t.c, .int .u8 (t.b.toNat : Int)]) ∧ (∀ x ∈ p, x.block < W.heap.size) := by
  obtain ⟨cs, rfl, hsz, _⟩ : ∃ cs, v = .agg cs ∧ cs.size = Try.prog.cellsOf 42 ∧ Row.okWide Try.prog W .any base 42 cs := by
    simpa [Value.okWide, Try.underlying42] using hv
  refine ⟨?_, by obtain ⟨m, hm⟩ := h; exact DataW.trod_lt m _ _ _ hm⟩
  obtain ⟨fuel, h⟩ := h
  obtain ⟨t, ht⟩ := cell_in h
  refine ⟨t, ?_⟩
  have e : cs.toList = t.cells := by simpa [Value.cells] using ht
  have : cs = #[.int .i64 t.r, .int .i64 t.c, .int .u8 (t.b.toNat : Int)] := by rw [← Array.toList_inj, e]; rfl
  rw [this]
set_option maxRecDepth 100000 in
theorem open_cells (hv : Value.okWide Try.prog W .any base 40 v) (h : DataW.Trod enc Try.prog W 0 (fun _ => true) true 40 v d p) :
    (∃ A n c cs, v = .slice A n c ∧ n = (cs : List Cl').length ∧ n ≤ maxLen ∧ Cels W W.heap.size A cs) ∧ (∀ x ∈ p, x.block < W.heap.size) := by
  obtain ⟨A, n, c, rfl⟩ := okWide_slice Try.underlying40 hv
  refine ⟨?_, by obtain ⟨m, hm⟩ := h; exact DataW.trod_lt m _ _ _ hm⟩
  obtain ⟨fuel, hf⟩ := h
  rcases open_slice Try.underlying40 hf with ⟨hcs, _⟩ | ⟨⟨b, off, spot⟩, l, cap, m, fu, D, Pl, hcs, _, hl, hm, hmm, _, hi⟩
  · simp [Value.cells] at hcs
    obtain ⟨rfl, rfl, rfl⟩ := hcs
    exact ⟨none, 0, 0, [], rfl, rfl, Nat.zero_le _, fun h => absurd h (by simp)⟩
  · simp [Value.cells] at hcs
    obtain ⟨rfl, rfl, rfl⟩ := hcs
    rw [cellsCell] at hi
    have hmc : m = c := by simpa using hmm
    obtain ⟨ts, htl, hts⟩ := each_list (fun i (t : Cl') => ∀ (j : Nat) u, t.cells[j]? = some u → W.cell? ((⟨b, off, spot⟩ : Addr).add (i * 3 + j)) = some u) n (fun i hin => by
      obtain ⟨cs', hc, ht'⟩ := hi i (by omega)
      obtain ⟨t, rfl⟩ := cell_in ht'
      obtain ⟨_, _, hat⟩ := World.cells?_some hc
      refine ⟨t, fun j u hj => ?_⟩
      have hj3 : j < 3 := by have := (List.getElem?_eq_some_iff.1 hj).1; simpa [Cl'.cells] using this
      rw [← Go.Deep.add_add, hat j hj3, hj])
    refine ⟨_, n, c, ts, rfl, htl.symm, by omega, fun h0 => ?_⟩
    obtain ⟨t0, ht0⟩ : ∃ t, ts[0]? = some t := ⟨ts[0]'(by omega), List.getElem?_eq_getElem _⟩
    have hc0 := hts 0 t0 ht0 0 _ rfl
    have hspot : spot = none := by simpa [Addr.add] using World.cell?_spot hc0
    subst hspot
    have hb := World.block_lt_of_cell? _ _ (by rw [← Go.WideShapes.add_plain]; exact hc0 : W.cell? ⟨b, off + (0 * 3 + 0), none⟩ = _)
    refine ⟨b, off, rfl, hb, fun j x hx => ?_⟩
    have g := hts j x hx
    refine ⟨?_, ?_, ?_⟩
    · have := g 0 _ rfl
      rwa [Go.WideShapes.add_plain] at this
    · have := g 1 _ rfl
      rwa [Go.WideShapes.add_plain, ← Nat.add_assoc] at this
    · have := g 2 _ rfl
      rwa [Go.WideShapes.add_plain, ← Nat.add_assoc] at this
end
theorem law6L (a0 a1 : Int) (h0 : (Lit.int .u8 a0).wf = true) (h1 : (Lit.int .u8 a1).wf = true) (A : Option Addr) (N c : Nat) (cs : List Cl') (hN : N = cs.length) (hNm : N ≤ maxLen) (w : World) (hc : Cels w w.heap.size A cs) :
    Calls Try.prog 6 #[.int .u8 a0, .int .u8 a1, .slice A N c] w fun e w' => e = .returned (.bool true) ∧ Below w.heap.size w w' := by
  have b0 := bnd_u8 h0
  have b1 := bnd_u8 h1
  obtain ⟨n, hn⟩ : ∃ n : Nat, 2 + a0 % 59 = (n : Int) := ⟨(2 + a0 % 59).toNat, by omega⟩
  obtain ⟨m, hm⟩ : ∃ m : Nat, 8 + a1 % 125 = (m : Int) := ⟨(8 + a1 % 125).toNat, by omega⟩
  exact law6_first n m (by omega) (by omega) (by omega) (by omega) a0 a1 b0 b1 hn hm A N c cs hN hNm w hc
end Go.Proofs.Ytaapoinggdempaa.grd
