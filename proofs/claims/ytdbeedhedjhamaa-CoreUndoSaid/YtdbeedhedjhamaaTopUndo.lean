/- CoreUndo is true for every list of texts, every list of acts and every list of splices, and leaves them as they were. No condition. -/
import Derived.Test.YtdbeedhedjhamaaCorLawUndo
import Derived.Test.YtdbeedhedjhamaaCorTops
import Derived.Test.YtdbeedhedjhamaaRows
import Derived.ProofKit
namespace Go.Proofs.Ytdbeedhedjhamaa.coreUndo
open Go.ChangeShapes Go.WideShapes Go.ChangeAt Go.RowKit Go.Proofs.Ytdbeedhedjhamaa.pce Go.Proofs.Ytdbeedhedjhamaa.sps Go.Proofs.Ytdbeedhedjhamaa.cor
set_option linter.unusedVariables false

set_option maxRecDepth 100000 in
theorem lifted (os : Os) (started : os.Started) (H : Type) (enc : TypeId × Value → H) :
    ReturnsInHanded {} Try.checked os 4 .any (Rows.coreUndoSpec.pre6 enc Try.prog Try.f4 Rows.coreUndoRow.domain false) (Rows.coreUndoSpec.post enc Try.prog Try.f4 false true false false) := by
  refine returnsInHanded_of_change (C := Try.checked) own started (by kernel_rfl) Try.func4
    (ChangeSpec.witness6 (enc := enc) (C := Try.checked) false ⟨#[], #[.slice none 0 0, .slice none 0 0, .slice none 0 0], []⟩ 8 (by kernel_rfl) (by kernel_rfl) (by kernel_rfl) (by kernel_rfl)) ?_
  intro W base args ds gs before hval0 hW hcnd _
  have hval : ∀ (j : Nat) t v, Try.f4.params[j]? = some t → args[j]? = some v → Value.okWide Try.prog W .any base t v := hval0
  have hW' := hW
  obtain ⟨p, q, hA0, hV, rfl, hfz, hnd⟩ := hW
  have hA : DataW.TrodAll enc Try.prog W 0 (fun _ => true) true Try.f4.params.toList args.toList ds p := hA0
  rw [Try.params4] at hA hval
  obtain ⟨v0, vs0, d0, ds0, p0, q0, hargs, rfl, rfl, h0, r0⟩ := trodAll_cons hA
  obtain ⟨v1, vs1, d1, ds1, p1, q1, rfl, rfl, rfl, h1, r1⟩ := trodAll_cons r0
  obtain ⟨v2, vs2, d2, ds2, p2, q2, rfl, rfl, rfl, h2, r2⟩ := trodAll_cons r1
  obtain ⟨rfl, rfl, rfl⟩ := trodAll_nil r2
  obtain rfl : args = #[v0, v1, v2] := by cases args; simp_all
  obtain ⟨rfl, rfl⟩ := trodVars_none hV
  obtain ⟨⟨A0, n0, c0, z0, rfl, l0⟩, lt0⟩ := open_list (hval 0 22 v0 rfl rfl) h0
  obtain ⟨⟨A1, n1, c1, z1, rfl, x1, y1, l1⟩, lt1⟩ := open_acts (hval 1 28 v1 rfl rfl) h1
  obtain ⟨⟨A2, n2, c2, z2, rfl, x2, y2, l2, m2, o2⟩, lt2⟩ := open_splices (hval 2 31 v2 rfl rfl) h2
  clear hA0 hval0
  refine (law_undo A0 n0 c0 z0 A1 n1 c1 z1 A2 n2 c2 z2 W l0 x1 y1 l1 x2 y2 l2).mono fun e W' ⟨he, bel⟩ => ?_
  subst he
  exact ⟨_, rfl, _, _, _, [], _, [], hW', trodAll_mk1 (shut_bool Try.underlying4 _), (trodAll_cons_mk (Below.trod laidOut (by kernel_rfl) (of_decide_eq_true (by kernel_rfl)) h0 bel lt0) (trodAll_cons_mk (Below.trod laidOut (by kernel_rfl) (of_decide_eq_true (by kernel_rfl)) h1 bel lt1) (trodAll_cons_mk (Below.trod laidOut (by kernel_rfl) (of_decide_eq_true (by kernel_rfl)) h2 bel lt2) trodAll_mk0))), rfl, bel.frame _, fun h => by cases h⟩

theorem over : Rows.coreUndoRow.holds Try.pinned (OpenSpec.ofChange Rows.coreUndoSpec) :=
  OpenClaim.holds_of_wide 4 Try.f4 rfl rfl rfl rfl rfl rfl rfl ⟨rfl, rfl, rfl, rfl, rfl⟩ rfl rfl rfl rfl rfl (by kernel_rfl) Try.func4 (by kernel_rfl)
    (of_decide_eq_true (by kernel_rfl)) (by unfold Func.isWrapper; first | (rw [if_pos (by decide +kernel)]; kernel_rfl) | (rw [if_neg (by decide +kernel)]; exact ⟨rfl, rfl⟩))
    (fun os started H enc _ => lifted os started H enc)
end Go.Proofs.Ytdbeedhedjhamaa.coreUndo
namespace Go.Proofs.Ytdbeedhedjhamaa
theorem core_undo_holds : Rows.CoreUndoSaid := coreUndo.over
end Go.Proofs.Ytdbeedhedjhamaa
