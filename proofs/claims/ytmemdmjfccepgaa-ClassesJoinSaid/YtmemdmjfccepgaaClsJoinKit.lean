/- The twelve names, and their row. -/
import Derived.Test.YtmemdmjfccepgaaClsBytes
import Derived.Test.YtmemdmjfccepgaaClsLay
namespace Go.Proofs.Ytmemdmjfccepgaa.cls
open Go.RowKit Go.Lib
set_option linter.unusedVariables false
set_option linter.unusedSimpArgs false

def nm12 : List (List UInt8) := [[108, 111, 119, 101, 114], [117, 112, 112, 101, 114], [97, 108, 112, 104, 97], [100, 105, 103, 105, 116], [97, 108, 110, 117, 109], [120, 100, 105, 103, 105, 116], [115, 112, 97, 99, 101], [98, 108, 97, 110, 107], [99, 110, 116, 114, 108], [103, 114, 97, 112, 104], [112, 114, 105, 110, 116], [112, 117, 110, 99, 116]]
theorem nm_ok : ∀ r, r < 12 → (clsOf (nm12.getD r [])).isSome = true ∧ (58 : UInt8) ∉ nm12.getD r [] ∧ (nm12.getD r []).length ≤ 6 := by decide
def ops12 : Array (Nat × Operand) := #[(0, .const (.string (B [108, 111, 119, 101, 114]))), (1, .const (.string (B [117, 112, 112, 101, 114]))), (2, .const (.string (B [97, 108, 112, 104, 97]))), (3, .const (.string (B [100, 105, 103, 105, 116]))), (4, .const (.string (B [97, 108, 110, 117, 109]))), (5, .const (.string (B [120, 100, 105, 103, 105, 116]))), (6, .const (.string (B [115, 112, 97, 99, 101]))), (7, .const (.string (B [98, 108, 97, 110, 107]))), (8, .const (.string (B [99, 110, 116, 114, 108]))), (9, .const (.string (B [103, 114, 97, 112, 104]))), (10, .const (.string (B [112, 114, 105, 110, 116]))), (11, .const (.string (B [112, 117, 110, 99, 116])))]
def vals12 : Array (Nat × Value) := #[(0, .string (B [108, 111, 119, 101, 114])), (1, .string (B [117, 112, 112, 101, 114])), (2, .string (B [97, 108, 112, 104, 97])), (3, .string (B [100, 105, 103, 105, 116])), (4, .string (B [97, 108, 110, 117, 109])), (5, .string (B [120, 100, 105, 103, 105, 116])), (6, .string (B [115, 112, 97, 99, 101])), (7, .string (B [98, 108, 97, 110, 107])), (8, .string (B [99, 110, 116, 114, 108])), (9, .string (B [103, 114, 97, 112, 104])), (10, .string (B [112, 114, 105, 110, 116])), (11, .string (B [112, 117, 110, 99, 116]))]
def cells12 : Array Value := #[.string (B [108, 111, 119, 101, 114]), .string (B [117, 112, 112, 101, 114]), .string (B [97, 108, 112, 104, 97]), .string (B [100, 105, 103, 105, 116]), .string (B [97, 108, 110, 117, 109]), .string (B [120, 100, 105, 103, 105, 116]), .string (B [115, 112, 97, 99, 101]), .string (B [98, 108, 97, 110, 107]), .string (B [99, 110, 116, 114, 108]), .string (B [103, 114, 97, 112, 104]), .string (B [112, 114, 105, 110, 116]), .string (B [112, 117, 110, 99, 116])]
theorem cells12_get : ∀ r, r < 12 → cells12[r]? = some (.string (B (nm12.getD r []))) := fun r hr => by
  match r, hr with
  | 0, _ => rfl
  | 1, _ => rfl
  | 2, _ => rfl
  | 3, _ => rfl
  | 4, _ => rfl
  | 5, _ => rfl
  | 6, _ => rfl
  | 7, _ => rfl
  | 8, _ => rfl
  | 9, _ => rfl
  | 10, _ => rfl
  | 11, _ => rfl
  | r + 12, h => omega
theorem inf9 : (Try.prog.info? 9).map (fun i => (i.zero, i.size)) = some (some (.string ⟨#[]⟩), 1) := by kernel_rfl
theorem mk12 : (Array.map (fun x => (Value.string ⟨#[]⟩).cells[x % (Value.string ⟨#[]⟩).cells.size]!) (Array.range 12)) = Array.replicate 12 (.string ⟨#[]⟩) := by kernel_rfl
theorem run_row12 (W : World) :
    (Instr.buildSlice 36 12 vals12).run Try.prog W = .ok (.slice (some ⟨W.heap.size, 0, none⟩) 12 12) (W.alloc (.cells cells12 9)) := by
  have hi := inf9
  cases hie : Try.prog.info? 9 with
  | none => simp [hie] at hi
  | some ie =>
    simp only [hie, Option.map_some, Option.some.injEq, Prod.mk.injEq] at hi
    exact run_buildSlice W _ _ 12 _ cells12 ie (.string ⟨#[]⟩) Try.underlying36 hie hi.1 (by rw [hi.2]; decide) (by rw [hi.2]; decide) (by rw [hi.2]; show Instr.fill _ (Array.map _ (Array.range 12)) _ = _; rw [mk12]; kernel_rfl)
section
variable {ops : Array Oper} {rest : List Oper} {op : Oper} {a : Act} {w : World} {Q : Exit → Act → World → Prop}
theorem wpList_row12 (hgd : op.guard = none) (ho : op.op = .buildSlice 36 12 ops12)
    (hk : ∀ w', w'.heap.size = w.heap.size + 1 → Below w.heap.size w w' → (∀ r, r < 12 → w'.cell? ⟨w.heap.size, r, none⟩ = some (.string (B (nm12.getD r [])))) → wpList Try.prog ops Q rest (a.put op.dst (.slice (some ⟨w.heap.size, 0, none⟩) 12 12)) w') : wpList Try.prog ops Q (op :: rest) a w :=
  wpList_plain hgd fun _ hK => by
    have e : (ops12.map fun (i, x) => (i, a.eval x)) = vals12 := by simp [ops12, vals12, Act.eval]
    unfold Oper.wp execOp
    simp only [ho, e, Sem.run_bind, run_row12 w, Result.andThen_ok]
    exact hK _ _ (hk _ (by simp) ((Below.refl _ _).alloc (Nat.le_refl _) _) (fun r hr => by rw [World.cell?_alloc_new]; exact cells12_get r hr))
theorem wpList_rem12 (hgd : op.guard = none) (x y : Operand) (ho : op.op = .binOp .rem 3 x y 3) (m : Nat) (hm : m < 256) (hx : a.eval x = .int .i64 (m : Int)) (hy : a.eval y = .int .i64 12)
    (hk : wpList Try.prog ops Q rest (a.put op.dst (.int .i64 ((m % 12 : Nat) : Int))) w) : wpList Try.prog ops Q (op :: rest) a w :=
  wpList_plain hgd fun _ hK => by
    have e : (binOp .rem 3 (.int .i64 (m : Int)) (.int .i64 12)).run Try.prog w = .ok (.int .i64 ((m % 12 : Nat) : Int)) w := by
      rw [binOp_rem]
      have e2 : Int.tmod (m : Int) 12 = ((m % 12 : Nat) : Int) := by rw [Int.tmod_eq_emod_of_nonneg (by omega)]; omega
      simp [Op.intDiv, e2]
    unfold Oper.wp execOp
    simp only [ho, hx, hy, Sem.run_bind, e, Result.andThen_ok]
    exact hK _ _ hk
end
theorem or2_comm (f g : Nat → Bool) : or2 f g = or2 g f := by funext c; unfold or2; exact Bool.or_comm _ _
end Go.Proofs.Ytmemdmjfccepgaa.cls
