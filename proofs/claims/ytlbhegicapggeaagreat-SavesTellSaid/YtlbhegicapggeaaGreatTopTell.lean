/- SavesTell is true for every capacity, every list of things to do and every list of bytes, and leaves them as they were. No condition. -/
import Derived.Test.YtlbhegicapggeaaGreatSavLawTell
import Derived.Test.YtlbhegicapggeaaGreatSavTops2
import Derived.Test.YtlbhegicapggeaaGreatRows
import Derived.ProofKit
namespace Go.Proofs.YtlbhegicapggeaaGreat.savesTell
open Go.ChangeShapes Go.WideShapes Go.ChangeAt Go.RowKit fil sav
open Go.ChangeMaps (open_string shut_string)
set_option linter.unusedVariables false

set_option maxRecDepth 100000 in
theorem lifted (os : Os) (started : os.Started) (H : Type) (enc : TypeId × Value → H) :
    ReturnsInHanded {} Tryz.checked os 3 .any (Rows.savesTellSpec.pre6 enc Tryz.prog Tryz.f3 Rows.savesTellRow.domain false) (Rows.savesTellSpec.post enc Tryz.prog Tryz.f3 false true false false) := by
  refine returnsInHanded_of_change (C := Tryz.checked) own started (by kernel_rfl) Tryz.func3
    (ChangeSpec.witness6 (enc := enc) (C := Tryz.checked) false ⟨#[], #[.int .i64 0, .slice none 0 0, .slice none 0 0], []⟩ 8 (by kernel_rfl) (by kernel_rfl) (by kernel_rfl) (by kernel_rfl)) ?_
  intro W base args ds gs before hval0 hW hcnd _
  have hval : ∀ (j : Nat) t v, Tryz.f3.params[j]? = some t → args[j]? = some v → Value.okWide Tryz.prog W .any base t v := hval0
  have hW' := hW
  obtain ⟨p, q, hA0, hV, rfl, hfz, hnd⟩ := hW
  have hA : DataW.TrodAll enc Tryz.prog W 0 (fun _ => true) true Tryz.f3.params.toList args.toList ds p := hA0
  rw [Tryz.params3] at hA hval
  obtain ⟨v0, vs0, d0, ds0, p0, q0, hargs, rfl, rfl, h0, r0⟩ := trodAll_cons hA
  obtain ⟨v1, vs1, d1, ds1, p1, q1, rfl, rfl, rfl, h1, r1⟩ := trodAll_cons r0
  obtain ⟨v2, vs2, d2, ds2, p2, q2, rfl, rfl, rfl, h2, r2⟩ := trodAll_cons r1
  obtain ⟨rfl, rfl, rfl⟩ := trodAll_nil r2
  obtain rfl : args = #[v0, v1, v2] := by cases args; simp_all
  obtain ⟨rfl, rfl⟩ := trodVars_none hV
  obtain ⟨k0, rfl, rfl, rfl, w0⟩ := open_int Tryz.underlying3 (hval 0 3 v0 rfl rfl) h0
  have u0 := int_i64 w0
  obtain ⟨⟨A1, n1, c1, z1, rfl, x1, y1, l1, o1⟩, lt1⟩ := open_dosN (hval 1 22 v1 rfl rfl) h1
  obtain ⟨⟨A2, n2, c2, z2, rfl, x2, y2, l2⟩, lt2⟩ := open_bytes (hval 2 23 v2 rfl rfl) h2
  clear hA0 hval0
  refine (lawTell k0 A1 c1 n1 z1 A2 n2 c2 z2 W u0 x1 y1 l1 o1 x2 y2 l2 (Lib.hid does_is)).mono fun e W' ⟨he, bel⟩ => ?_
  subst he
  exact ⟨_, rfl, _, _, _, [], _, [], hW', trodAll_mk1 (shut_bool Tryz.underlying4 _), (trodAll_cons_mk (shut_int Tryz.underlying3 w0) (trodAll_cons_mk (Below.trod laidOut (by kernel_rfl) (of_decide_eq_true (by kernel_rfl)) h1 bel lt1) (trodAll_cons_mk (Below.trod laidOut (by kernel_rfl) (of_decide_eq_true (by kernel_rfl)) h2 bel lt2) trodAll_mk0))), rfl, bel.frame _, fun h => by cases h⟩

theorem over : Rows.savesTellRow.holds Tryz.pinned (OpenSpec.ofChange Rows.savesTellSpec) :=
  OpenClaim.holds_of_wide 3 Tryz.f3 rfl rfl rfl rfl rfl rfl rfl ⟨rfl, rfl, rfl, rfl, rfl⟩ rfl rfl rfl rfl rfl (by kernel_rfl) Tryz.func3 (by kernel_rfl)
    (of_decide_eq_true (by kernel_rfl)) (by unfold Func.isWrapper; first | (rw [if_pos (by decide +kernel)]; kernel_rfl) | (rw [if_neg (by decide +kernel)]; exact ⟨rfl, rfl⟩))
    (fun os started H enc _ => lifted os started H enc)
end Go.Proofs.YtlbhegicapggeaaGreat.savesTell
namespace Go.Proofs.YtlbhegicapggeaaGreat
theorem saves_tell_holds : Rows.SavesTellSaid := savesTell.over
end Go.Proofs.YtlbhegicapggeaaGreat
