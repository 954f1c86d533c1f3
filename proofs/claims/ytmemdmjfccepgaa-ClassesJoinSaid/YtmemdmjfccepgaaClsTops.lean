/- Classes: what a law's row begins with. -/
import Derived.Test.YtmemdmjfccepgaaClsNamed
import Derived.HandedShaped
import Derived.ProofKit
import Derived.OpenShut
import Derived.ChangeOld
import Derived.ShutString
import Derived.Shelf.Vars
namespace Go.Proofs.Ytmemdmjfccepgaa.cls
open Go.ChangeShapes Go.WideShapes Go.ChangeAt Go.RowKit Go.Lib
set_option linter.unusedVariables false

theorem own : ownKnob Try.prog.godebug = none := by kernel_rfl
theorem laidOut : laidOutB Try.prog = true := by kernel_rfl
theorem nat_of_u8 {a : Int} (h : (Lit.int .u8 a).wf = true) : ∃ n : Nat, a = n ∧ n < 256 := by
  simp [Lit.wf, IntKind.min, IntKind.max, IntKind.signed, IntKind.bits] at h
  exact ⟨a.toNat, by omega, by omega⟩
theorem int_i64 {a : Int} (h : (Lit.int .i64 a).wf = true) : -9223372036854775808 ≤ a ∧ a ≤ 9223372036854775807 := by
  simp [Lit.wf, IntKind.min, IntKind.max, IntKind.signed, IntKind.bits] at h
  exact ⟨by omega, by omega⟩
theorem vs_of {W : World} (h : W.ShapedOpen Try.prog) : Vs W.heap.size W := by
  obtain ⟨m, hm⟩ := Go.Proofs.cell_of_shapedOpen_int (g := 0) (zero := #[.int .i64 0]) (t := 3) h (of_decide_eq_true (by kernel_rfl)) (by kernel_rfl) rfl (by kernel_rfl) (by kernel_rfl) Try.underlying3
  exact ⟨World.block_lt_of_cell? _ _ hm, m, hm⟩
/-- A text that came in, as its bytes. -/
theorem text_B (s : ByteArray) : ∃ l : List UInt8, s = B l ∧ l.length = s.size := ⟨s.data.toList, (B_list s).symm, by rw [Array.length_toList]; rfl⟩
end Go.Proofs.Ytmemdmjfccepgaa.cls
