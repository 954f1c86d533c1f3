/- Marks: one byte made into a text; a splice's block; texts held against each other. -/
import Derived.Test.YtojcbjificodaaaMrkStay0
import Derived.Test.YtojcbjificodaaaMrkKit
import Derived.Laws.IdiomStrings
import Derived.Great.BuildSlice
namespace Go.Proofs.Ytojcbjificodaaa.mrk
open Go.RowKit Go.Lib pce sps
set_option linter.unusedVariables false
set_option linter.unusedSimpArgs false
set_option linter.unnecessarySimpa false
set_option linter.unusedSectionVars false

theorem inf5 : (Try.prog.info? 5).map (fun i => (i.zero, i.size)) = some (some (.int .u8 0), 1) := by kernel_rfl
theorem mk1b : (Array.map (fun x => (Value.int .u8 0).cells[x % (Value.int .u8 0).cells.size]!) (Array.range 1)) = #[.int .u8 0] := by kernel_rfl
theorem run_bytes1 (a : Int) (W : World) :
    (Instr.buildSlice 28 1 #[(0, .int .u8 a)]).run Try.prog W = .ok (.slice (some ⟨W.heap.size, 0, none⟩) 1 1) (W.alloc (.cells #[.int .u8 a] 5)) := by
  have hi := inf5
  cases hie : Try.prog.info? 5 with
  | none => simp [hie] at hi
  | some ie =>
    simp only [hie, Option.map_some, Option.some.injEq, Prod.mk.injEq] at hi
    exact run_buildSlice W _ _ 1 _ #[.int .u8 a] ie (.int .u8 0) Try.underlying28 hie hi.1 (by rw [hi.2]; decide) (by rw [hi.2]; decide) (by rw [hi.2]; show Instr.fill _ (Array.map _ (Array.range 1)) _ = _; rw [mk1b]; rfl)
theorem conv_one (w : World) (u : UInt8) : (convert 28 9 (.slice (some ⟨w.heap.size, 0, none⟩) 1 1)).run Try.prog (w.alloc (.cells #[.int .u8 (u.toNat : Int)] 5)) = .ok (.string ⟨#[u]⟩) (w.alloc (.cells #[.int .u8 (u.toNat : Int)] 5)) :=
  run_convert_bytes_back (P := Try.prog) _ 28 9 5 ⟨w.heap.size, 0, none⟩ 1 [u] Try.underlying28 Try.underlying5 Try.underlying9 (fun j hj => by
    have hj1 : j < 1 := hj
    obtain rfl : j = 0 := by omega
    rw [Go.WideShapes.add_plain, World.cell?_alloc_new]
    rfl)
section
variable {ops : Array Oper} {rest : List Oper} {op : Oper} {a : Act} {w : World} {Q : Exit → Act → World → Prop} {K : Act → World → Prop} {S : World → Prop}
/-- []byte{..} of one byte: what it is as a text. -/
theorem wp_byte1 (x : Operand) (ho : op.op = .buildSlice 28 1 #[(0, x)]) (k : Nat) (hk26 : k < 26) (i : Int) (hi : i = 97 + (k : Int)) (hx : a.eval x = .int .u8 i)
    (hk : ∀ w', w'.heap.size = w.heap.size + 1 → Below w.heap.size w w' → (convert 28 9 (.slice (some ⟨w.heap.size, 0, none⟩) 1 1)).run Try.prog w' = .ok (.string (ltr k)) w' → K (a.put op.dst (.slice (some ⟨w.heap.size, 0, none⟩) 1 1)) w') : Oper.wp Try.prog op a w K Q := by
  have e0 : i = ((UInt8.ofNat (97 + k)).toNat : Int) := by rw [hi]; simp; omega
  have e : (#[(0, x)].map fun (i, x) => (i, a.eval x)) = #[(0, Value.int .u8 ((UInt8.ofNat (97 + k)).toNat : Int))] := by rw [← e0]; simp [hx]
  unfold Oper.wp execOp
  simp only [ho, e, Sem.run_bind, run_bytes1 ((UInt8.ofNat (97 + k)).toNat : Int) w, Result.andThen_ok]
  exact hk _ (by simp) ((Below.refl _ _).alloc (Nat.le_refl _) _) (conv_one w _)
theorem wpList_byte1 (hgd : op.guard = none) (x : Operand) (ho : op.op = .buildSlice 28 1 #[(0, x)]) (k : Nat) (hk26 : k < 26) (i : Int) (hi : i = 97 + (k : Int)) (hx : a.eval x = .int .u8 i)
    (hk : ∀ w', w'.heap.size = w.heap.size + 1 → Below w.heap.size w w' → (convert 28 9 (.slice (some ⟨w.heap.size, 0, none⟩) 1 1)).run Try.prog w' = .ok (.string (ltr k)) w' → wpList Try.prog ops Q rest (a.put op.dst (.slice (some ⟨w.heap.size, 0, none⟩) 1 1)) w') : wpList Try.prog ops Q (op :: rest) a w :=
  wpList_plain hgd fun _ hK => wp_byte1 x ho k hk26 i hi hx fun w' h1 h2 h3 => hK _ _ (hk w' h1 h2 h3)
theorem wp_conv (x : Operand) (ho : op.op = .convert 28 9 x) (v u : Value) (hx : a.eval x = v) (hr : (convert 28 9 v).run Try.prog w = .ok u w) (hk : K (a.put op.dst u) w) : Oper.wp Try.prog op a w K Q := by
  unfold Oper.wp execOp
  simp only [ho, hx, Sem.run_bind, hr, Result.andThen_ok]
  exact hk
theorem zerS (w : World) : (zeroValue 30).run Try.prog w = .ok (.agg #[.int .i64 0, .int .i64 0, .slice none 0 0]) w := by kernel_rfl
theorem run_allocS (w : World) (old : Value) : (Instr.alloc 30 true old).run Try.prog w = .ok (.pointer (some ⟨w.heap.size, 0, none⟩)) (w.alloc (.cells #[.int .i64 0, .int .i64 0, .slice none 0 0] 30)) := by
  simp only [Instr.alloc, Sem.run_bind, zerS, Result.andThen_ok]
  rfl
theorem wp_allocS (ho : op.op = .alloc 30)
    (hk : ∀ w', w'.heap.size = w.heap.size + 1 → At w' w.heap.size 30 #[.int .i64 0, .int .i64 0, .slice none 0 0] → Below w.heap.size w w' → K (a.put op.dst (.pointer (some ⟨w.heap.size, 0, none⟩))) w') : Oper.wp Try.prog op a w K Q := by
  unfold Oper.wp execOp
  simp only [ho, Sem.run_bind, Sem.run_pure, Result.andThen_ok, run_allocS]
  exact hk _ (by simp) (At.new w _ _) ((Below.refl _ _).alloc (Nat.le_refl _) _)
theorem yields_streq (hw : Region.wanted op (yielded ops a.tmps) = true) (x y : Operand) (ty : TypeId) (ho : op.op = .binOp .eql 9 x y ty) (s t : ByteArray) (b : Bool) (hx : a.eval x = .string s) (hy : a.eval y = .string t) (hb : decide (s = t) = b) : YieldsIf Try.prog ops S op (.bool b) a :=
  .inl ⟨hw, fun W hW => by
    unfold execOp
    subst hb
    have h1 : (eqGuard .eql 9 x y (.string s) (.string t)).run Try.prog W = .ok () W := rfl
    have h3 : (s.toList == t.toList) = decide (s = t) := by
      by_cases h : s = t
      · rw [decide_eq_true h]; exact (Lib.bytes_beq_iff _ _).2 h
      · rw [decide_eq_false h]; exact (Lib.bytes_beq_false_iff _ _).2 h
    have h2 : (binOp .eql 9 (.string s) (.string t)).run Try.prog W = .ok (.bool (decide (s = t))) W := by
      rw [← h3, binOp_string_eql]
      rfl
    simp only [ho, hx, hy, Sem.run_bind, h1, h2, Result.andThen_ok]
    rfl⟩
end
end Go.Proofs.Ytojcbjificodaaa.mrk
