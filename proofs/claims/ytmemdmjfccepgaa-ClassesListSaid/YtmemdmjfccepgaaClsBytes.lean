/- Bytes that came in; a few bytes made into a text. -/
import Derived.Test.YtmemdmjfccepgaaClsTops
import Derived.Test.YtmemdmjfccepgaaClsLet
import Derived.Test.YtmemdmjfccepgaaClsDoes2
import Derived.Great.BuildSlice
import Derived.Deep.Slices
import Derived.ChangeSlices
import Derived.Lib.IndexBytes
import Derived.Laws.IdiomStrings
namespace Go.Proofs.Ytmemdmjfccepgaa.cls
open Go.ChangeShapes Go.WideShapes Go.ChangeAt Go.RowKit Go.Lib
set_option linter.unusedVariables false
set_option linter.unusedSimpArgs false

/-- Behind the address A the bytes zs stand. -/
def Rd (w : World) (A : Option Addr) (zs : List UInt8) : Prop :=
  0 < zs.length → ∃ b off, A = some ⟨b, off, none⟩ ∧ b < w.heap.size ∧ ∀ j, j < zs.length → w.cell? ⟨b, off + j, none⟩ = some (.int .u8 ((zs.getD j 0).toNat : Int))
theorem cells5 : Try.prog.cellsOf 5 = 1 := by kernel_rfl
section
variable {H : Type} {enc : TypeId × Value → H} {W : World} {base : Nat} {v : Value} {d : DataW H} {p : List MemPlace}
theorem open_bytes (hv : Value.okWide Try.prog W .any base 32 v) (h : DataW.Trod enc Try.prog W 0 (fun _ => true) true 32 v d p) :
    (∃ A n c us, v = .slice A n c ∧ n = (us : List UInt8).length ∧ n ≤ maxLen ∧ Rd W A us) ∧ (∀ x ∈ p, x.block < W.heap.size) := by
  obtain ⟨A, n, c, rfl⟩ := okWide_slice Try.underlying32 hv
  refine ⟨?_, by obtain ⟨m, hm⟩ := h; exact DataW.trod_lt m _ _ _ hm⟩
  obtain ⟨fuel, hf⟩ := h
  rcases open_ints Try.underlying32 Try.underlying5 cells5 hf with ⟨hcs, _⟩ | ⟨⟨b, off, spot⟩, l, c', zs, hcs, _, hl, hm, hz, _, hcell, hwf⟩
  · simp [Value.cells] at hcs
    obtain ⟨rfl, rfl, rfl⟩ := hcs
    exact ⟨none, 0, 0, [], rfl, rfl, Nat.zero_le _, fun h => by simp at h⟩
  · simp [Value.cells] at hcs
    obtain ⟨rfl, rfl, rfl⟩ := hcs
    have hz' : zs.length = c := by simpa using hz
    have hk : ((zs.take n).map fun z => UInt8.ofNat z.toNat).length = n := by rw [List.length_map, List.length_take]; omega
    refine ⟨some ⟨b, off, spot⟩, n, c, (zs.take n).map fun z => UInt8.ofNat z.toNat, rfl, hk.symm, by omega, fun h0 => ?_⟩
    rw [hk] at h0
    have hspot : spot = none := by simpa [Addr.add] using World.cell?_spot (hcell 0 (by omega))
    subst hspot
    have hb := World.block_lt_of_cell? _ _ (by rw [← Go.WideShapes.add_plain]; exact hcell 0 (by omega) : W.cell? ⟨b, off + 0, none⟩ = _)
    refine ⟨b, off, rfl, hb, fun j hj => ?_⟩
    rw [hk] at hj
    have hj3 : j < zs.length := by omega
    rw [← Go.WideShapes.add_plain, hcell j hj3]
    obtain ⟨m, hm1, hm2⟩ := nat_of_u8 (hwf (zs[j]'hj3) (List.getElem_mem _))
    have e : zs.getD j 0 = (m : Int) := by simp [List.getD, List.getElem?_eq_getElem hj3, hm1]
    rw [e]
    have e2 : ((zs.take n).map fun z => UInt8.ofNat z.toNat).getD j 0 = UInt8.ofNat m := by
      simp [List.getD, hj, List.getElem?_take, List.getElem?_eq_getElem hj3, hm1]
    rw [e2]
    simp
    omega
end

/-! ## A few bytes made into a text -/
theorem inf5 : (Try.prog.info? 5).map (fun i => (i.zero, i.size)) = some (some (.int .u8 0), 1) := by kernel_rfl
theorem mk1b : (Array.map (fun x => (Value.int .u8 0).cells[x % (Value.int .u8 0).cells.size]!) (Array.range 1)) = #[.int .u8 0] := by kernel_rfl
theorem mk3b : (Array.map (fun x => (Value.int .u8 0).cells[x % (Value.int .u8 0).cells.size]!) (Array.range 3)) = #[.int .u8 0, .int .u8 0, .int .u8 0] := by kernel_rfl
theorem run_bytes1 (a : Int) (W : World) :
    (Instr.buildSlice 32 1 #[(0, .int .u8 a)]).run Try.prog W = .ok (.slice (some ⟨W.heap.size, 0, none⟩) 1 1) (W.alloc (.cells #[.int .u8 a] 5)) := by
  have hi := inf5
  cases hie : Try.prog.info? 5 with
  | none => simp [hie] at hi
  | some ie =>
    simp only [hie, Option.map_some, Option.some.injEq, Prod.mk.injEq] at hi
    exact run_buildSlice W _ _ 1 _ #[.int .u8 a] ie (.int .u8 0) Try.underlying32 hie hi.1 (by rw [hi.2]; decide) (by rw [hi.2]; decide) (by rw [hi.2]; show Instr.fill _ (Array.map _ (Array.range 1)) _ = _; rw [mk1b]; rfl)
theorem run_bytes3 (a b c : Int) (W : World) :
    (Instr.buildSlice 32 3 #[(0, .int .u8 a), (1, .int .u8 b), (2, .int .u8 c)]).run Try.prog W = .ok (.slice (some ⟨W.heap.size, 0, none⟩) 3 3) (W.alloc (.cells #[.int .u8 a, .int .u8 b, .int .u8 c] 5)) := by
  have hi := inf5
  cases hie : Try.prog.info? 5 with
  | none => simp [hie] at hi
  | some ie =>
    simp only [hie, Option.map_some, Option.some.injEq, Prod.mk.injEq] at hi
    exact run_buildSlice W _ _ 3 _ #[.int .u8 a, .int .u8 b, .int .u8 c] ie (.int .u8 0) Try.underlying32 hie hi.1 (by rw [hi.2]; decide) (by rw [hi.2]; decide) (by rw [hi.2]; show Instr.fill _ (Array.map _ (Array.range 3)) _ = _; rw [mk3b]; rfl)
theorem conv_row (w : World) (l : List UInt8) (k : Nat) (hk : l.length = k) : (convert 32 9 (.slice (some ⟨w.heap.size, 0, none⟩) k k)).run Try.prog (w.alloc (.cells (l.map fun c => Value.int .u8 (c.toNat : Int)).toArray 5)) = .ok (.string (B l)) (w.alloc (.cells (l.map fun c => Value.int .u8 (c.toNat : Int)).toArray 5)) := by
  subst hk
  exact run_convert_bytes_back (P := Try.prog) _ 32 9 5 ⟨w.heap.size, 0, none⟩ l.length l Try.underlying32 Try.underlying5 Try.underlying9 (fun j hj => by
    rw [Go.WideShapes.add_plain, World.cell?_alloc_new, Nat.zero_add, List.getElem?_toArray, List.getElem?_map, List.getElem?_eq_getElem hj]
    rfl)
section
variable {ops : Array Oper} {rest : List Oper} {op : Oper} {a : Act} {w : World} {Q : Exit → Act → World → Prop}
theorem wpList_bytes1 (hgd : op.guard = none) (x : Operand) (ho : op.op = .buildSlice 32 1 #[(0, x)]) (u : UInt8) (i : Int) (hi : i = (u.toNat : Int)) (hx : a.eval x = .int .u8 i)
    (hk : ∀ w', w'.heap.size = w.heap.size + 1 → Below w.heap.size w w' → (convert 32 9 (.slice (some ⟨w.heap.size, 0, none⟩) 1 1)).run Try.prog w' = .ok (.string (B [u])) w' → wpList Try.prog ops Q rest (a.put op.dst (.slice (some ⟨w.heap.size, 0, none⟩) 1 1)) w') : wpList Try.prog ops Q (op :: rest) a w :=
  wpList_plain hgd fun _ hK => by
    subst hi
    have e : (#[(0, x)].map fun (i, x) => (i, a.eval x)) = #[(0, Value.int .u8 (u.toNat : Int))] := by simp [hx]
    unfold Oper.wp execOp
    simp only [ho, e, Sem.run_bind, run_bytes1 (u.toNat : Int) w, Result.andThen_ok]
    exact hK _ _ (hk _ (by simp) ((Below.refl _ _).alloc (Nat.le_refl _) _) (conv_row w [u] 1 rfl))
theorem wpList_bytes3 (hgd : op.guard = none) (x y z : Operand) (ho : op.op = .buildSlice 32 3 #[(0, x), (1, y), (2, z)]) (u1 u2 u3 : UInt8) (i1 i2 i3 : Int) (h1 : i1 = (u1.toNat : Int)) (h2 : i2 = (u2.toNat : Int)) (h3 : i3 = (u3.toNat : Int)) (hx : a.eval x = .int .u8 i1) (hy : a.eval y = .int .u8 i2) (hz : a.eval z = .int .u8 i3)
    (hk : ∀ w', w'.heap.size = w.heap.size + 1 → Below w.heap.size w w' → (convert 32 9 (.slice (some ⟨w.heap.size, 0, none⟩) 3 3)).run Try.prog w' = .ok (.string (B [u1, u2, u3])) w' → wpList Try.prog ops Q rest (a.put op.dst (.slice (some ⟨w.heap.size, 0, none⟩) 3 3)) w') : wpList Try.prog ops Q (op :: rest) a w :=
  wpList_plain hgd fun _ hK => by
    subst h1 h2 h3
    have e : (#[(0, x), (1, y), (2, z)].map fun (i, x) => (i, a.eval x)) = #[(0, Value.int .u8 (u1.toNat : Int)), (1, Value.int .u8 (u2.toNat : Int)), (2, Value.int .u8 (u3.toNat : Int))] := by simp [hx, hy, hz]
    unfold Oper.wp execOp
    simp only [ho, e, Sem.run_bind, run_bytes3 (u1.toNat : Int) (u2.toNat : Int) (u3.toNat : Int) w, Result.andThen_ok]
    exact hK _ _ (hk _ (by simp) ((Below.refl _ _).alloc (Nat.le_refl _) _) (conv_row w [u1, u2, u3] 3 rfl))
end
/-- The letter as a byte. -/
def letB (z : UInt8) : UInt8 := UInt8.ofNat (letN z.toNat)
theorem letB_nat (z : UInt8) : (letB z).toNat = letN z.toNat := by
  unfold letB
  have := letN_lt z.toNat
  simp
  omega
theorem letB_al (z : UInt8) : isAl (letB z) := by
  unfold isAl
  rw [letB_nat]
  unfold letN
  split
  · omega
  · split <;> omega
theorem upd_or (f : Nat → Bool) (a : Nat) : upd f a true = or2 f (one a) := by
  funext c
  unfold or2 one upd
  by_cases hc : c = a <;> simp [hc]
end Go.Proofs.Ytmemdmjfccepgaa.cls
