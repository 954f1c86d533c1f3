/- A byte made into a text. -/
import Derived.Test.YtibflbepnlemmaaTplDoes
import Derived.Great.BuildSlice
import Derived.Deep.Slices
import Derived.Laws.IdiomStrings
import Derived.Laws.BytesString
namespace Go.Proofs.Ytibflbepnlemmaa.tpl
open Go.RowKit Go.Lib
set_option linter.unusedVariables false
set_option linter.unusedSimpArgs false

/-! ## A few bytes made into a text -/
theorem inf5 : (Try.prog.info? 5).map (fun i => (i.zero, i.size)) = some (some (.int .u8 0), 1) := by kernel_rfl
theorem mk1b : (Array.map (fun x => (Value.int .u8 0).cells[x % (Value.int .u8 0).cells.size]!) (Array.range 1)) = #[.int .u8 0] := by kernel_rfl
theorem run_bytes1 (a : Int) (W : World) :
    (Instr.buildSlice 41 1 #[(0, .int .u8 a)]).run Try.prog W = .ok (.slice (some ⟨W.heap.size, 0, none⟩) 1 1) (W.alloc (.cells #[.int .u8 a] 5)) := by
  have hi := inf5
  cases hie : Try.prog.info? 5 with
  | none => simp [hie] at hi
  | some ie =>
    simp only [hie, Option.map_some, Option.some.injEq, Prod.mk.injEq] at hi
    exact run_buildSlice W _ _ 1 _ #[.int .u8 a] ie (.int .u8 0) Try.underlying41 hie hi.1 (by rw [hi.2]; decide) (by rw [hi.2]; decide) (by rw [hi.2]; show Instr.fill _ (Array.map _ (Array.range 1)) _ = _; rw [mk1b]; rfl)
theorem conv_row (w : World) (l : List UInt8) (k : Nat) (hk : l.length = k) : (convert 41 9 (.slice (some ⟨w.heap.size, 0, none⟩) k k)).run Try.prog (w.alloc (.cells (l.map fun c => Value.int .u8 (c.toNat : Int)).toArray 5)) = .ok (.string (B l)) (w.alloc (.cells (l.map fun c => Value.int .u8 (c.toNat : Int)).toArray 5)) := by
  subst hk
  exact run_convert_bytes_back (P := Try.prog) _ 41 9 5 ⟨w.heap.size, 0, none⟩ l.length l Try.underlying41 Try.underlying5 Try.underlying9 (fun j hj => by
    rw [Go.WideShapes.add_plain, World.cell?_alloc_new, Nat.zero_add, List.getElem?_toArray, List.getElem?_map, List.getElem?_eq_getElem hj]
    rfl)
section
variable {ops : Array Oper} {rest : List Oper} {op : Oper} {a : Act} {w : World} {Q : Exit → Act → World → Prop}
theorem wpList_bytes1 (hgd : op.guard = none) (x : Operand) (ho : op.op = .buildSlice 41 1 #[(0, x)]) (u : UInt8) (i : Int) (hi : i = (u.toNat : Int)) (hx : a.eval x = .int .u8 i)
    (hk : ∀ w', w'.heap.size = w.heap.size + 1 → Below w.heap.size w w' → (convert 41 9 (.slice (some ⟨w.heap.size, 0, none⟩) 1 1)).run Try.prog w' = .ok (.string (B [u])) w' → wpList Try.prog ops Q rest (a.put op.dst (.slice (some ⟨w.heap.size, 0, none⟩) 1 1)) w') : wpList Try.prog ops Q (op :: rest) a w :=
  wpList_plain hgd fun _ hK => by
    subst hi
    have e : (#[(0, x)].map fun (i, x) => (i, a.eval x)) = #[(0, Value.int .u8 (u.toNat : Int))] := by simp [hx]
    unfold Oper.wp execOp
    simp only [ho, e, Sem.run_bind, run_bytes1 (u.toNat : Int) w, Result.andThen_ok]
    exact hK _ _ (hk _ (by simp) ((Below.refl _ _).alloc (Nat.le_refl _) _) (conv_row w [u] 1 rfl))
end
end Go.Proofs.Ytibflbepnlemmaa.tpl
