/- SavesWhole is true for every size, every list of texts, every list of bytes and every list of numbers, and leaves them as they were. No condition. -/
import Derived.Test.YtlbhegicapggeaaSavLawWhole
import Derived.Test.YtlbhegicapggeaaSavTops
import Derived.Test.YtlbhegicapggeaaRows
import Derived.ProofKit
namespace Go.Proofs.Ytlbhegicapggeaa.savesWhole
open Go.ChangeShapes Go.WideShapes Go.ChangeAt Go.RowKit fil sav
open Go.ChangeMaps (open_string shut_string)
set_option linter.unusedVariables false

set_option maxRecDepth 100000 in
theorem lifted (os : Os) (started : os.Started) (H : Type) (enc : TypeId × Value → H) :
    ReturnsInHanded {} Try.checked os 4 .any (Rows.savesWholeSpec.pre6 enc Try.prog Try.f4 Rows.savesWholeRow.domain false) (Rows.savesWholeSpec.post enc Try.prog Try.f4 false true false false) := by
  refine returnsInHanded_of_change (C := Try.checked) own started (by kernel_rfl) Try.func4
    (ChangeSpec.witness6 (enc := enc) (C := Try.checked) false ⟨#[], #[.int .u16 0, .slice none 0 0, .agg #[.slice none 0 0, .slice none 0 0]], []⟩ 8 (by kernel_rfl) (by kernel_rfl) (by kernel_rfl) (by kernel_rfl)) ?_
  intro W base args ds gs before hval0 hW hcnd _
  have hval : ∀ (j : Nat) t v, Try.f4.params[j]? = some t → args[j]? = some v → Value.okWide Try.prog W .any base t v := hval0
  have hW' := hW
  obtain ⟨p, q, hA0, hV, rfl, hfz, hnd⟩ := hW
  have hA : DataW.TrodAll enc Try.prog W 0 (fun _ => true) true Try.f4.params.toList args.toList ds p := hA0
  rw [Try.params4] at hA hval
  obtain ⟨v0, vs0, d0, ds0, p0, q0, hargs, rfl, rfl, h0, r0⟩ := trodAll_cons hA
  obtain ⟨v1, vs1, d1, ds1, p1, q1, rfl, rfl, rfl, h1, r1⟩ := trodAll_cons r0
  obtain ⟨v2, vs2, d2, ds2, p2, q2, rfl, rfl, rfl, h2, r2⟩ := trodAll_cons r1
  obtain ⟨rfl, rfl, rfl⟩ := trodAll_nil r2
  obtain rfl : args = #[v0, v1, v2] := by cases args; simp_all
  obtain ⟨rfl, rfl⟩ := trodVars_none hV
  obtain ⟨a0, rfl, rfl, rfl, w0⟩ := open_int Try.underlying37 (hval 0 37 v0 rfl rfl) h0
  obtain ⟨k0, rfl, u0⟩ := nat_u16 w0
  obtain ⟨⟨A1, n1, c1, z1, rfl, l1⟩, lt1⟩ := open_list (hval 1 38 v1 rfl rfl) h1
  obtain ⟨⟨A2, n2, c2, z2, B2, m2, g2, y2, rfl, f2, i2, l2, j2, o2, t2, x2⟩, lt2⟩ := open_fails (hval 2 42 v2 rfl rfl) h2
  clear hA0 hval0
  refine (lawWhole k0 A1 c1 n1 z1 A2 n2 c2 z2 B2 m2 g2 y2 W u0 l1.1 (by have := l1.2.2.1; unfold maxLen at this; omega) l1.2.2.2.1 l1.2.2.2.2 f2 i2 l2 j2 o2 t2 x2 (Lib.hid does_is)).mono fun e W' ⟨he, bel⟩ => ?_
  subst he
  exact ⟨_, rfl, _, _, _, [], _, [], hW', trodAll_mk1 (shut_bool Try.underlying4 _), (trodAll_cons_mk (shut_int Try.underlying37 w0) (trodAll_cons_mk (Below.trod laidOut (by kernel_rfl) (of_decide_eq_true (by kernel_rfl)) h1 bel lt1) (trodAll_cons_mk (Below.trod laidOut (by kernel_rfl) (of_decide_eq_true (by kernel_rfl)) h2 bel lt2) trodAll_mk0))), rfl, bel.frame _, fun h => by cases h⟩

theorem over : Rows.savesWholeRow.holds Try.pinned (OpenSpec.ofChange Rows.savesWholeSpec) :=
  OpenClaim.holds_of_wide 4 Try.f4 rfl rfl rfl rfl rfl rfl rfl ⟨rfl, rfl, rfl, rfl, rfl⟩ rfl rfl rfl rfl rfl (by kernel_rfl) Try.func4 (by kernel_rfl)
    (of_decide_eq_true (by kernel_rfl)) (by unfold Func.isWrapper; first | (rw [if_pos (by decide +kernel)]; kernel_rfl) | (rw [if_neg (by decide +kernel)]; exact ⟨rfl, rfl⟩))
    (fun os started H enc _ => lifted os started H enc)
end Go.Proofs.Ytlbhegicapggeaa.savesWhole
namespace Go.Proofs.Ytlbhegicapggeaa
theorem saves_whole_holds : Rows.SavesWholeSaid := savesWhole.over
end Go.Proofs.Ytlbhegicapggeaa
