/- Terminals: the chapter's examples hold. -/
import Derived.Test.YteekihhngjbjgaaVttDoes
namespace Go.Proofs.Yteekihhngjbjgaa.vtt
open Go.RowKit Go.Lib Go.Proofs.Yteekihhngjbjgaa.grd
set_option linter.unusedVariables false
set_option linter.unusedSimpArgs false
set_option linter.unnecessarySimpa false
set_option linter.unusedSectionVars false

theorem eq1 (W : World) : (binOp .eql 42 (.agg #[.int .i64 1, .int .i64 3]) (.agg #[.int .i64 1, .int .i64 3])).run Try.prog W = .ok (.bool true) W := by kernel_rfl
theorem eq2 (W : World) : (binOp .eql 42 (.agg #[.int .i64 0, .int .i64 3]) (.agg #[.int .i64 0, .int .i64 3])).run Try.prog W = .ok (.bool true) W := by kernel_rfl
theorem eq3 (W : World) : (binOp .eql 42 (.agg #[.int .i64 0, .int .i64 7]) (.agg #[.int .i64 0, .int .i64 7])).run Try.prog W = .ok (.bool true) W := by kernel_rfl
theorem eq4 (W : World) : (binOp .eql 42 (.agg #[.int .i64 0, .int .i64 2]) (.agg #[.int .i64 0, .int .i64 2])).run Try.prog W = .ok (.bool true) W := by kernel_rfl
theorem lit_after' (A : Option Addr) (c : Nat) (x y : ByteArray) (W : World) (h1 : SRd W W.heap.size A [x, y]) :
    Calls Try.prog 28 #[.slice A 2 c, .slice (some ⟨W.heap.size, 0, none⟩) 2 2] (W.alloc (.cells #[.string x, .string y] 9)) fun e w' => e = .returned (.bool true) ∧ Below (W.alloc (.cells #[.string x, .string y] 9)).heap.size (W.alloc (.cells #[.string x, .string y] 9)) w' :=
  law_same2 A _ c 2 x y _ ((h1.alloc (Nat.le_refl _) _).more (by simp)) (srd_lit W x y)
set_option maxHeartbeats 8000000 in
set_option maxRecDepth 100000 in
theorem does_is (w : World) : Calls Try.prog 13 #[] w fun e w' => e = .returned (.bool true) ∧ Below w.heap.size w w' := by
  have E1 := eq1
  have E2 := eq2
  have E3 := eq3
  have E4 := eq4
  have BB0 : Hid (Below w.heap.size w w) := Lib.hid (Below.refl _ _)
  go_enter Try.func13, Try.ntmps13
  go_wp2_with fail
  go_at_call 27
  refine (shown1 _).mono ?_
  rintro e v1 ⟨A1, c1, rfl, hS, hB⟩
  have HS1 : Hid (SRd (v1.alloc (.cells #[.int .i64 1, .int .i64 3] 42)) (v1.alloc (.cells #[.int .i64 1, .int .i64 3] 42)).heap.size A1 [⟨#[32, 98, 32, 32, 32, 32, 32, 32]⟩, ⟨#[32, 32, 99, 32, 32, 32, 32, 32]⟩]) := Lib.hid ((hS.alloc (Nat.le_refl _) _).more (by simp))
  have HA1 := Lib.hid (At.new v1 42 #[.int .i64 1, .int .i64 3])
  have HL1 : Hid (Below w.heap.size w (v1.alloc (.cells #[.int .i64 1, .int .i64 3] 42))) := Lib.hid (hB.alloc hB.size _)
  have hb1 : Hid (v1.heap.size < (v1.alloc (.cells #[.int .i64 1, .int .i64 3] 42)).heap.size) := Lib.hid (by simp)
  clear hS hB
  go_wp2_with fail
  have hz1 : Hid ((v1.alloc (.cells #[.int .i64 1, .int .i64 3] 42)).heap.size = v1.heap.size + 1) := Lib.hid (by simp)
  generalize hu1 : v1.alloc (.cells #[.int .i64 1, .int .i64 3] 42) = u1 at HS1 HA1 HL1 hb1 hz1 ⊢
  clear hu1
  obtain ⟨b1, hbb⟩ : ∃ b, b = v1.heap.size := ⟨_, rfl⟩
  rw [← hbb] at HA1 hb1 hz1 ⊢
  clear hbb
  have BB1 : Hid (Below w.heap.size w u1) := Lib.hid (BB0.out.trans (HL1.out.mono BB0.out.size))
  go_wp2_with fail
  go_at_call 27
  refine (shown2 _).mono ?_
  rintro e v2 ⟨A2, c2, rfl, hS, hB⟩
  have HS2 : Hid (SRd (v2.alloc (.cells #[.int .i64 0, .int .i64 3] 42)) (v2.alloc (.cells #[.int .i64 0, .int .i64 3] 42)).heap.size A2 [⟨#[32, 32, 121, 32, 32, 32, 32, 32]⟩, ⟨#[32, 32, 120, 32, 32, 32, 32, 32]⟩]) := Lib.hid ((hS.alloc (Nat.le_refl _) _).more (by simp))
  have HA2 := Lib.hid (At.new v2 42 #[.int .i64 0, .int .i64 3])
  have HL2 : Hid (Below u1.heap.size u1 (v2.alloc (.cells #[.int .i64 0, .int .i64 3] 42))) := Lib.hid (hB.alloc hB.size _)
  have hb2 : Hid (v2.heap.size < (v2.alloc (.cells #[.int .i64 0, .int .i64 3] 42)).heap.size) := Lib.hid (by simp)
  clear hS hB
  go_wp2_with fail
  have hz2 : Hid ((v2.alloc (.cells #[.int .i64 0, .int .i64 3] 42)).heap.size = v2.heap.size + 1) := Lib.hid (by simp)
  generalize hu2 : v2.alloc (.cells #[.int .i64 0, .int .i64 3] 42) = u2 at HS2 HA2 HL2 hb2 hz2 ⊢
  clear hu2
  obtain ⟨b2, hbb⟩ : ∃ b, b = v2.heap.size := ⟨_, rfl⟩
  rw [← hbb] at HA2 hb2 hz2 ⊢
  clear hbb
  have BB2 : Hid (Below w.heap.size w u2) := Lib.hid (BB1.out.trans (HL2.out.mono BB1.out.size))
  have HS1 := Lib.hid ((HS1.out.below HL2.out).more HL2.out.size)
  have HA1 := Lib.hid (HA1.out.keep HL2.out HA1.out.lt)
  go_wp2_with fail
  go_at_call 27
  refine (shown3 _).mono ?_
  rintro e v3 ⟨A3, c3, rfl, hS, hB⟩
  have HS3 : Hid (SRd (v3.alloc (.cells #[.int .i64 0, .int .i64 7] 42)) (v3.alloc (.cells #[.int .i64 0, .int .i64 7] 42)).heap.size A3 [⟨#[49, 50, 51, 52, 53, 54, 55, 57]⟩, ⟨#[32, 32, 32, 32, 32, 32, 32, 32]⟩]) := Lib.hid ((hS.alloc (Nat.le_refl _) _).more (by simp))
  have HA3 := Lib.hid (At.new v3 42 #[.int .i64 0, .int .i64 7])
  have HL3 : Hid (Below u2.heap.size u2 (v3.alloc (.cells #[.int .i64 0, .int .i64 7] 42))) := Lib.hid (hB.alloc hB.size _)
  have hb3 : Hid (v3.heap.size < (v3.alloc (.cells #[.int .i64 0, .int .i64 7] 42)).heap.size) := Lib.hid (by simp)
  clear hS hB
  go_wp2_with fail
  have hz3 : Hid ((v3.alloc (.cells #[.int .i64 0, .int .i64 7] 42)).heap.size = v3.heap.size + 1) := Lib.hid (by simp)
  generalize hu3 : v3.alloc (.cells #[.int .i64 0, .int .i64 7] 42) = u3 at HS3 HA3 HL3 hb3 hz3 ⊢
  clear hu3
  obtain ⟨b3, hbb⟩ : ∃ b, b = v3.heap.size := ⟨_, rfl⟩
  rw [← hbb] at HA3 hb3 hz3 ⊢
  clear hbb
  have BB3 : Hid (Below w.heap.size w u3) := Lib.hid (BB2.out.trans (HL3.out.mono BB2.out.size))
  have HS1 := Lib.hid ((HS1.out.below HL3.out).more HL3.out.size)
  have HA1 := Lib.hid (HA1.out.keep HL3.out HA1.out.lt)
  have HS2 := Lib.hid ((HS2.out.below HL3.out).more HL3.out.size)
  have HA2 := Lib.hid (HA2.out.keep HL3.out HA2.out.lt)
  go_wp2_with fail
  go_at_call 27
  refine (shown4 _).mono ?_
  rintro e v4 ⟨A4, c4, rfl, hS, hB⟩
  have HS4 : Hid (SRd (v4.alloc (.cells #[.int .i64 0, .int .i64 2] 42)) (v4.alloc (.cells #[.int .i64 0, .int .i64 2] 42)).heap.size A4 [⟨#[97, 122, 32, 32, 32, 32, 32, 32]⟩, ⟨#[32, 32, 32, 32, 32, 32, 32, 32]⟩]) := Lib.hid ((hS.alloc (Nat.le_refl _) _).more (by simp))
  have HA4 := Lib.hid (At.new v4 42 #[.int .i64 0, .int .i64 2])
  have HL4 : Hid (Below u3.heap.size u3 (v4.alloc (.cells #[.int .i64 0, .int .i64 2] 42))) := Lib.hid (hB.alloc hB.size _)
  have hb4 : Hid (v4.heap.size < (v4.alloc (.cells #[.int .i64 0, .int .i64 2] 42)).heap.size) := Lib.hid (by simp)
  clear hS hB
  go_wp2_with fail
  have hz4 : Hid ((v4.alloc (.cells #[.int .i64 0, .int .i64 2] 42)).heap.size = v4.heap.size + 1) := Lib.hid (by simp)
  generalize hu4 : v4.alloc (.cells #[.int .i64 0, .int .i64 2] 42) = u4 at HS4 HA4 HL4 hb4 hz4 ⊢
  clear hu4
  obtain ⟨b4, hbb⟩ : ∃ b, b = v4.heap.size := ⟨_, rfl⟩
  rw [← hbb] at HA4 hb4 hz4 ⊢
  clear hbb
  have BB4 : Hid (Below w.heap.size w u4) := Lib.hid (BB3.out.trans (HL4.out.mono BB3.out.size))
  have HS1 := Lib.hid ((HS1.out.below HL4.out).more HL4.out.size)
  have HA1 := Lib.hid (HA1.out.keep HL4.out HA1.out.lt)
  have HS2 := Lib.hid ((HS2.out.below HL4.out).more HL4.out.size)
  have HA2 := Lib.hid (HA2.out.keep HL4.out HA2.out.lt)
  have HS3 := Lib.hid ((HS3.out.below HL4.out).more HL4.out.size)
  have HA3 := Lib.hid (HA3.out.keep HL4.out HA3.out.lt)
  have SC1 := Lib.hid (lit_after' A1 c1 ⟨#[32, 98, 32, 32, 32, 32, 32, 32]⟩ ⟨#[32, 32, 99, 32, 32, 32, 32, 32]⟩ u4 HS1.out)
  rw [hz4.out] at SC1
  go_wp2_with fail
  go_at_call 28
  (refine SC1.out.mono ?_)
  rintro e x1 ⟨rfl, hB⟩
  have HX1 : Hid (Below u4.heap.size u4 x1) := Lib.hid (((Below.refl _ _).alloc (Nat.le_refl _) _).trans (hB.mono (by simp)))
  clear hB SC1
  have HS1 := Lib.hid ((HS1.out.below HX1.out).more HX1.out.size)
  have HA1 := Lib.hid (HA1.out.keep HX1.out HA1.out.lt)
  have HS2 := Lib.hid ((HS2.out.below HX1.out).more HX1.out.size)
  have HA2 := Lib.hid (HA2.out.keep HX1.out HA2.out.lt)
  have HS3 := Lib.hid ((HS3.out.below HX1.out).more HX1.out.size)
  have HA3 := Lib.hid (HA3.out.keep HX1.out HA3.out.lt)
  have HS4 := Lib.hid ((HS4.out.below HX1.out).more HX1.out.size)
  have HA4 := Lib.hid (HA4.out.keep HX1.out HA4.out.lt)
  have BX1 : Hid (Below w.heap.size w x1) := Lib.hid (BB4.out.trans (HX1.out.mono BB4.out.size))
  obtain ⟨k0, k1⟩ : x1.cell? ⟨b1, 0, none⟩ = some (.int .i64 1) ∧ x1.cell? ⟨b1, 1, none⟩ = some (.int .i64 3) := ⟨HA1.out.cell 0, HA1.out.cell 1⟩
  go_wp2_with fail
  clear k0 k1
  have SC2 := Lib.hid (lit_after' A2 c2 ⟨#[32, 32, 121, 32, 32, 32, 32, 32]⟩ ⟨#[32, 32, 120, 32, 32, 32, 32, 32]⟩ x1 HS2.out)

  go_wp2_with fail
  go_at_call 28
  (refine SC2.out.mono ?_)
  rintro e x2 ⟨rfl, hB⟩
  have HX2 : Hid (Below x1.heap.size x1 x2) := Lib.hid (((Below.refl _ _).alloc (Nat.le_refl _) _).trans (hB.mono (by simp)))
  clear hB SC2
  have HS2 := Lib.hid ((HS2.out.below HX2.out).more HX2.out.size)
  have HA2 := Lib.hid (HA2.out.keep HX2.out HA2.out.lt)
  have HS3 := Lib.hid ((HS3.out.below HX2.out).more HX2.out.size)
  have HA3 := Lib.hid (HA3.out.keep HX2.out HA3.out.lt)
  have HS4 := Lib.hid ((HS4.out.below HX2.out).more HX2.out.size)
  have HA4 := Lib.hid (HA4.out.keep HX2.out HA4.out.lt)
  have BX2 : Hid (Below w.heap.size w x2) := Lib.hid (BX1.out.trans (HX2.out.mono BX1.out.size))
  obtain ⟨k0, k1⟩ : x2.cell? ⟨b2, 0, none⟩ = some (.int .i64 0) ∧ x2.cell? ⟨b2, 1, none⟩ = some (.int .i64 3) := ⟨HA2.out.cell 0, HA2.out.cell 1⟩
  go_wp2_with fail
  clear k0 k1
  have SC3 := Lib.hid (lit_after' A3 c3 ⟨#[49, 50, 51, 52, 53, 54, 55, 57]⟩ ⟨#[32, 32, 32, 32, 32, 32, 32, 32]⟩ x2 HS3.out)

  go_wp2_with fail
  go_at_call 28
  (refine SC3.out.mono ?_)
  rintro e x3 ⟨rfl, hB⟩
  have HX3 : Hid (Below x2.heap.size x2 x3) := Lib.hid (((Below.refl _ _).alloc (Nat.le_refl _) _).trans (hB.mono (by simp)))
  clear hB SC3
  have HS3 := Lib.hid ((HS3.out.below HX3.out).more HX3.out.size)
  have HA3 := Lib.hid (HA3.out.keep HX3.out HA3.out.lt)
  have HS4 := Lib.hid ((HS4.out.below HX3.out).more HX3.out.size)
  have HA4 := Lib.hid (HA4.out.keep HX3.out HA4.out.lt)
  have BX3 : Hid (Below w.heap.size w x3) := Lib.hid (BX2.out.trans (HX3.out.mono BX2.out.size))
  obtain ⟨k0, k1⟩ : x3.cell? ⟨b3, 0, none⟩ = some (.int .i64 0) ∧ x3.cell? ⟨b3, 1, none⟩ = some (.int .i64 7) := ⟨HA3.out.cell 0, HA3.out.cell 1⟩
  go_wp2_with fail
  clear k0 k1
  have SC4 := Lib.hid (lit_after' A4 c4 ⟨#[97, 122, 32, 32, 32, 32, 32, 32]⟩ ⟨#[32, 32, 32, 32, 32, 32, 32, 32]⟩ x3 HS4.out)

  go_wp2_with fail
  go_at_call 28
  (refine SC4.out.mono ?_)
  rintro e x4 ⟨rfl, hB⟩
  have HX4 : Hid (Below x3.heap.size x3 x4) := Lib.hid (((Below.refl _ _).alloc (Nat.le_refl _) _).trans (hB.mono (by simp)))
  clear hB SC4
  have HS4 := Lib.hid ((HS4.out.below HX4.out).more HX4.out.size)
  have HA4 := Lib.hid (HA4.out.keep HX4.out HA4.out.lt)
  have BX4 : Hid (Below w.heap.size w x4) := Lib.hid (BX3.out.trans (HX4.out.mono BX3.out.size))
  obtain ⟨k0, k1⟩ : x4.cell? ⟨b4, 0, none⟩ = some (.int .i64 0) ∧ x4.cell? ⟨b4, 1, none⟩ = some (.int .i64 2) := ⟨HA4.out.cell 0, HA4.out.cell 1⟩
  go_wp2
  go_ret
  exact ⟨rfl, BX4.out⟩
end Go.Proofs.Yteekihhngjbjgaa.vtt
