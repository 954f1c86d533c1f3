/- SavesBack is true for every two names, every two texts and every list of numbers, and leaves them as they were. No condition. -/
import Derived.Test.YtlbhegicapggeaaSavLawBack
import Derived.Test.YtlbhegicapggeaaFilPair
import Derived.Test.YtlbhegicapggeaaRows
import Derived.ProofKit
namespace Go.Proofs.Ytlbhegicapggeaa.savesBack
open Go.ChangeShapes Go.WideShapes Go.ChangeAt Go.RowKit fil sav
open Go.ChangeMaps (open_string shut_string)
set_option linter.unusedVariables false

set_option maxRecDepth 100000 in
theorem lifted (os : Os) (started : os.Started) (H : Type) (enc : TypeId × Value → H) :
    ReturnsInHanded {} Try.checked os 5 .any (Rows.savesBackSpec.pre6 enc Try.prog Try.f5 Rows.savesBackRow.domain false) (Rows.savesBackSpec.post enc Try.prog Try.f5 false true false false) := by
  refine returnsInHanded_of_change (C := Try.checked) own started (by kernel_rfl) Try.func5
    (ChangeSpec.witness6 (enc := enc) (C := Try.checked) false ⟨#[], #[.agg #[.string .empty, .string .empty], .agg #[.string .empty, .string .empty], .slice none 0 0], []⟩ 8 (by kernel_rfl) (by kernel_rfl) (by kernel_rfl) (by kernel_rfl)) ?_
  intro W base args ds gs before hval0 hW hcnd _
  have hval : ∀ (j : Nat) t v, Try.f5.params[j]? = some t → args[j]? = some v → Value.okWide Try.prog W .any base t v := hval0
  have hW' := hW
  obtain ⟨p, q, hA0, hV, rfl, hfz, hnd⟩ := hW
  have hA : DataW.TrodAll enc Try.prog W 0 (fun _ => true) true Try.f5.params.toList args.toList ds p := hA0
  rw [Try.params5] at hA hval
  obtain ⟨v0, vs0, d0, ds0, p0, q0, hargs, rfl, rfl, h0, r0⟩ := trodAll_cons hA
  obtain ⟨v1, vs1, d1, ds1, p1, q1, rfl, rfl, rfl, h1, r1⟩ := trodAll_cons r0
  obtain ⟨v2, vs2, d2, ds2, p2, q2, rfl, rfl, rfl, h2, r2⟩ := trodAll_cons r1
  obtain ⟨rfl, rfl, rfl⟩ := trodAll_nil r2
  obtain rfl : args = #[v0, v1, v2] := by cases args; simp_all
  obtain ⟨rfl, rfl⟩ := trodVars_none hV
  obtain ⟨s0, t0, rfl, rfl, rfl, w0, y0⟩ := open_pair (hval 0 47 v0 rfl rfl) h0
  obtain ⟨s1, t1, rfl, rfl, rfl, w1, y1⟩ := open_pair (hval 1 47 v1 rfl rfl) h1
  obtain ⟨⟨A2, n2, c2, z2, rfl, x2, y2, m2, l2⟩, lt2⟩ := open_nums (hval 2 40 v2 rfl rfl) h2
  clear hA0 hval0
  refine (lawBack s0 t0 s1 t1 A2 c2 n2 z2 W w0 y0 w1 y1 x2 y2 m2 l2 (Lib.hid does_is)).mono fun e W' ⟨he, bel⟩ => ?_
  subst he
  exact ⟨_, rfl, _, _, _, [], _, [], hW', trodAll_mk1 (shut_bool Try.underlying4 _), (trodAll_cons_mk (shut_pair w0 y0) (trodAll_cons_mk (shut_pair w1 y1) (trodAll_cons_mk (Below.trod laidOut (by kernel_rfl) (of_decide_eq_true (by kernel_rfl)) h2 bel lt2) trodAll_mk0))), rfl, bel.frame _, fun h => by cases h⟩

theorem over : Rows.savesBackRow.holds Try.pinned (OpenSpec.ofChange Rows.savesBackSpec) :=
  OpenClaim.holds_of_wide 5 Try.f5 rfl rfl rfl rfl rfl rfl rfl ⟨rfl, rfl, rfl, rfl, rfl⟩ rfl rfl rfl rfl rfl (by kernel_rfl) Try.func5 (by kernel_rfl)
    (of_decide_eq_true (by kernel_rfl)) (by unfold Func.isWrapper; first | (rw [if_pos (by decide +kernel)]; kernel_rfl) | (rw [if_neg (by decide +kernel)]; exact ⟨rfl, rfl⟩))
    (fun os started H enc _ => lifted os started H enc)
end Go.Proofs.Ytlbhegicapggeaa.savesBack
namespace Go.Proofs.Ytlbhegicapggeaa
theorem saves_back_holds : Rows.SavesBackSaid := savesBack.over
end Go.Proofs.Ytlbhegicapggeaa
