/- The laws' examples. -/
import Derived.Test.YtmemdmjfccepgaaClsDoes
namespace Go.Proofs.Ytmemdmjfccepgaa.cls
open Go.RowKit Go.Lib
set_option linter.unusedVariables false
set_option linter.unusedSimpArgs false
set_option linter.unnecessarySimpa false
set_option linter.unusedSectionVars false

theorem parse_b (l : List UInt8) (a : Int) (R : Option ((Nat → Bool) × List UInt8)) (v : Value) (hR : parseAt l a = R) (hv : retP l R = v) (hl : l.length ≤ 1000000000) (h1 : -9223372036854775808 ≤ a) (h2 : a ≤ 9223372036854775807) (w : World) (hV : Vs w.heap.size w) :
    Calls Try.prog 10 #[.string (B l), .int .i64 a] w fun e w' => e = .returned v ∧ Below w.heap.size w w' := by
  subst hv hR
  exact parse_is w l a hl h1 h2 hV
def dA : Nat → Bool := or2 (or2 (or2 noB (btw 97 99)) (one 45)) (one 101)
def dB : Nat → Bool := or2 (or2 noB (one 93)) (one 97)
def dC : Nat → Bool := or2 (or2 noB fDigit) (one 120)
theorem ex0 (w : World) (hV : Vs w.heap.size w) : Calls Try.prog 10 #[.string ⟨#[120, 91, 97, 45, 99, 45, 101, 93, 121]⟩, .int .i64 1] w fun e w' => e = .returned (.tuple #[.agg (arr dA), .int .i64 8, .int .i64 0]) ∧ Below w.heap.size w w' :=
  parse_b [120, 91, 97, 45, 99, 45, 101, 93, 121] 1 (some (dA, [121])) _ (by kernel_rfl) (by rfl) (by decide) (by decide) (by decide) w hV
theorem ex1 (w : World) (hV : Vs w.heap.size w) : Calls Try.prog 10 #[.string ⟨#[91, 93, 97, 93]⟩, .int .i64 0] w fun e w' => e = .returned (.tuple #[.agg (arr dB), .int .i64 4, .int .i64 0]) ∧ Below w.heap.size w w' :=
  parse_b [91, 93, 97, 93] 0 (some (dB, [])) _ (by kernel_rfl) (by rfl) (by decide) (by decide) (by decide) w hV
theorem ex2 (w : World) (hV : Vs w.heap.size w) : Calls Try.prog 10 #[.string ⟨#[91, 91, 58, 100, 105, 103, 105, 116, 58, 93, 120, 93]⟩, .int .i64 0] w fun e w' => e = .returned (.tuple #[.agg (arr dC), .int .i64 12, .int .i64 0]) ∧ Below w.heap.size w w' :=
  parse_b [91, 91, 58, 100, 105, 103, 105, 116, 58, 93, 120, 93] 0 (some (dC, [])) _ (by kernel_rfl) (by rfl) (by decide) (by decide) (by decide) w hV
theorem ex3 (w : World) (hV : Vs w.heap.size w) : Calls Try.prog 10 #[.string ⟨#[91, 99, 45, 97, 93]⟩, .int .i64 0] w fun e w' => e = .returned (.tuple #[.agg (arr noB), .int .i64 0, .int .i64 90]) ∧ Below w.heap.size w w' :=
  parse_b [91, 99, 45, 97, 93] 0 none _ (by kernel_rfl) (by rfl) (by decide) (by decide) (by decide) w hV
theorem ex4 (w : World) : Calls Try.prog 13 #[.string ⟨#[102, 111, 111]⟩] w fun e w' => e = .returned (.tuple #[.agg (arr noB), .bool false]) ∧ Below w.heap.size w w' :=
  class_b [102, 111, 111] noB false (by kernel_rfl) (by kernel_rfl) w (by decide)
theorem has0 (w : World) : Calls Try.prog 22 #[.agg (arr dA), .string ⟨#[97, 98, 99, 45, 101]⟩] w fun e w' => e = .returned (.bool true) ∧ Below w.heap.size w w' :=
  has_yes w dA [97, 98, 99, 45, 101] (by decide) (by decide) (by decide +kernel)
theorem has1 (w : World) : Calls Try.prog 22 #[.agg (arr dB), .string ⟨#[93, 97]⟩] w fun e w' => e = .returned (.bool true) ∧ Below w.heap.size w w' :=
  has_yes w dB [93, 97] (by decide) (by decide) (by decide +kernel)
theorem has2 (w : World) : Calls Try.prog 22 #[.agg (arr dC), .string ⟨#[48, 49, 50, 51, 52, 53, 54, 55, 56, 57, 120]⟩] w fun e w' => e = .returned (.bool true) ∧ Below w.heap.size w w' :=
  has_yes w dC [48, 49, 50, 51, 52, 53, 54, 55, 56, 57, 120] (by decide) (by decide) (by decide +kernel)

set_option maxHeartbeats 4000000 in
set_option maxRecDepth 100000 in
theorem does_is (w : World) (hV : Vs w.heap.size w) :
    Calls Try.prog 12 #[] w fun e w' => e = .returned (.bool true) ∧ Below w.heap.size w w' := by
  have HV := Lib.hid hV
  have B0 := Lib.hid (Below.refl w.heap.size w)
  have Z0 := Lib.hid (Nat.le_refl w.heap.size)
  clear hV
  go_enter Try.func12, Try.ntmps12
  go_wp2_with fail
  go_at_call 10
  refine (ex0 w ((HV.out.below B0.out).more Z0.out)).mono ?_
  rintro e u0 ⟨rfl, hb⟩
  have hz0 := hb.size
  have HBk := Lib.hid hb
  clear hb
  go_wp2_with (first | (refine wpList_allocA rfl rfl ?_; intro v0 hs ha hb) | (refine wpList_storeA rfl _ _ rfl _ _ rfl rfl _ ha ?_; intro w0 hA hC))
  have q0 : w0.heap.size = u0.heap.size + 1 := by rw [hC.size, hs]
  have hD : Below w.heap.size w w0 := (HBk.out.trans (hb.mono hz0)).trans (hC.below hz0)
  have B1 := Lib.hid (B0.out.trans (hD.mono Z0.out))
  have Z1 := Lib.hid (show w.heap.size ≤ w0.heap.size by have := Z0.out; omega)
  have A0 := Lib.hid hA
  clear hA hC hs ha hb hD HBk
  go_at_call 10
  refine (ex1 w0 ((HV.out.below B1.out).more Z1.out)).mono ?_
  rintro e u1 ⟨rfl, hb⟩
  have hz1 := hb.size
  have HBk := Lib.hid hb
  clear hb
  go_wp2_with (first | (refine wpList_allocA rfl rfl ?_; intro v1 hs ha hb) | (refine wpList_storeA rfl _ _ rfl _ _ rfl rfl _ ha ?_; intro w1 hA hC))
  have q1 : w1.heap.size = u1.heap.size + 1 := by rw [hC.size, hs]
  have hD : Below w0.heap.size w0 w1 := (HBk.out.trans (hb.mono hz1)).trans (hC.below hz1)
  have B2 := Lib.hid (B1.out.trans (hD.mono Z1.out))
  have Z2 := Lib.hid (show w.heap.size ≤ w1.heap.size by have := Z1.out; omega)
  have A1 := Lib.hid hA
  have A0k := Lib.hid (A0.out.keep hD (by omega))
  clear A0
  have A0 := A0k
  clear A0k
  clear hA hC hs ha hb hD HBk
  go_at_call 10
  refine (ex2 w1 ((HV.out.below B2.out).more Z2.out)).mono ?_
  rintro e u2 ⟨rfl, hb⟩
  have hz2 := hb.size
  have HBk := Lib.hid hb
  clear hb
  go_wp2_with (first | (refine wpList_allocA rfl rfl ?_; intro v2 hs ha hb) | (refine wpList_storeA rfl _ _ rfl _ _ rfl rfl _ ha ?_; intro w2 hA hC))
  have q2 : w2.heap.size = u2.heap.size + 1 := by rw [hC.size, hs]
  have hD : Below w1.heap.size w1 w2 := (HBk.out.trans (hb.mono hz2)).trans (hC.below hz2)
  have B3 := Lib.hid (B2.out.trans (hD.mono Z2.out))
  have Z3 := Lib.hid (show w.heap.size ≤ w2.heap.size by have := Z2.out; omega)
  have A2 := Lib.hid hA
  have A0k := Lib.hid (A0.out.keep hD (by omega))
  clear A0
  have A0 := A0k
  clear A0k
  have A1k := Lib.hid (A1.out.keep hD (by omega))
  clear A1
  have A1 := A1k
  clear A1k
  clear hA hC hs ha hb hD HBk
  go_at_call 10
  refine (ex3 w2 ((HV.out.below B3.out).more Z3.out)).mono ?_
  rintro e u3 ⟨rfl, hb⟩
  have hz3 := hb.size
  have HBk := Lib.hid hb
  clear hb
  go_wp2_with (first | (refine wpList_allocA rfl rfl ?_; intro v3 hs ha hb) | (refine wpList_storeA rfl _ _ rfl _ _ rfl rfl _ ha ?_; intro w3 hA hC))
  have q3 : w3.heap.size = u3.heap.size + 1 := by rw [hC.size, hs]
  have hD : Below w2.heap.size w2 w3 := (HBk.out.trans (hb.mono hz3)).trans (hC.below hz3)
  have B4 := Lib.hid (B3.out.trans (hD.mono Z3.out))
  have Z4 := Lib.hid (show w.heap.size ≤ w3.heap.size by have := Z3.out; omega)
  have A3 := Lib.hid hA
  have A0k := Lib.hid (A0.out.keep hD (by omega))
  clear A0
  have A0 := A0k
  clear A0k
  have A1k := Lib.hid (A1.out.keep hD (by omega))
  clear A1
  have A1 := A1k
  clear A1k
  have A2k := Lib.hid (A2.out.keep hD (by omega))
  clear A2
  have A2 := A2k
  clear A2k
  clear hA hC hs ha hb hD HBk
  go_at_call 13
  refine (ex4 w3).mono ?_
  rintro e u4 ⟨rfl, hb⟩
  have hz4 := hb.size
  have HBk := Lib.hid hb
  clear hb
  go_wp2_with (first | (refine wpList_allocA rfl rfl ?_; intro v4 hs ha hb) | (refine wpList_storeA rfl _ _ rfl _ _ rfl rfl _ ha ?_; intro w4 hA hC; have hA0 := A0.out.keep ((HBk.out.trans (hb.mono hz4)).trans (hC.below hz4)) (by omega)) | (refine wpList_loadM (by simp [Region.wanted, yielded]) _ rfl _ rfl dA hA0 ?_))
  have q4 : w4.heap.size = u4.heap.size + 1 := by rw [hC.size, hs]
  have hD : Below w3.heap.size w3 w4 := (HBk.out.trans (hb.mono hz4)).trans (hC.below hz4)
  have B5 := Lib.hid (B4.out.trans (hD.mono Z4.out))
  have Z5 := Lib.hid (show w.heap.size ≤ w4.heap.size by have := Z4.out; omega)
  have A4 := Lib.hid hA
  have A0k := Lib.hid (A0.out.keep hD (by omega))
  clear A0
  have A0 := A0k
  clear A0k
  have A1k := Lib.hid (A1.out.keep hD (by omega))
  clear A1
  have A1 := A1k
  clear A1k
  have A2k := Lib.hid (A2.out.keep hD (by omega))
  clear A2
  have A2 := A2k
  clear A2k
  have A3k := Lib.hid (A3.out.keep hD (by omega))
  clear A3
  have A3 := A3k
  clear A3k
  clear hA hC hs ha hb hD HBk
  go_at_call 22
  refine (has0 w4).mono ?_
  rintro e x0 ⟨rfl, hb⟩
  have hzx0 := hb.size
  have BX0 := Lib.hid (B5.out.trans (hb.mono Z5.out))
  have ZX0 := Lib.hid (show w.heap.size ≤ x0.heap.size by have := Z5.out; omega)
  have A1k := Lib.hid (A1.out.keep hb (by omega))
  clear A1
  have A1 := A1k
  clear A1k
  have A2k := Lib.hid (A2.out.keep hb (by omega))
  clear A2
  have A2 := A2k
  clear A2k
  clear hb
  go_wp2_with (refine wpList_loadM (by simp [Region.wanted, yielded]) _ rfl _ rfl dB A1.out ?_)
  go_at_call 22
  refine (has1 x0).mono ?_
  rintro e x1 ⟨rfl, hb⟩
  have hzx1 := hb.size
  have BX1 := Lib.hid (BX0.out.trans (hb.mono ZX0.out))
  have ZX1 := Lib.hid (show w.heap.size ≤ x1.heap.size by have := ZX0.out; omega)
  have A2k := Lib.hid (A2.out.keep hb (by omega))
  clear A2
  have A2 := A2k
  clear A2k
  clear hb
  go_wp2_with (refine wpList_loadM (by simp [Region.wanted, yielded]) _ rfl _ rfl dC A2.out ?_)
  go_at_call 22
  refine (has2 x1).mono ?_
  rintro e x2 ⟨rfl, hb⟩
  have hzx2 := hb.size
  have BX2 := Lib.hid (BX1.out.trans (hb.mono ZX1.out))
  have ZX2 := Lib.hid (show w.heap.size ≤ x2.heap.size by have := ZX1.out; omega)
  clear hb
  go_wp2
  go_ret
  exact ⟨rfl, BX2.out⟩
theorem B_app (a b : List UInt8) : B a ++ B b = B (a ++ b) := by
  apply ByteArray.ext
  show _ = (a ++ b).toArray
  simp
theorem toNat_eq (x y : UInt8) (h : x.toNat = y.toNat) : x = y := UInt8.toNat_inj.1 h
/-- What Parse tells at a text's first place. -/
def ret0 (l : List UInt8) (R : Option ((Nat → Bool) × List UInt8)) : Value := retP l R
theorem parse0 (l : List UInt8) (R : Option ((Nat → Bool) × List UInt8)) (hR : parseL l = R) (w : World) (hl : l.length ≤ 1000000000) (hV : Vs w.heap.size w) :
    Calls Try.prog 10 #[.string (B l), .int .i64 0] w fun e w' => e = .returned (retP l R) ∧ Below w.heap.size w w' :=
  parse_b l 0 R _ (by
    unfold parseAt
    rw [if_pos ⟨Int.le_refl _, by omega⟩]
    exact hR) rfl hl (by decide) (by decide) w hV
theorem retP_none (l : List UInt8) : retP l none = .tuple #[.agg (arr noB), .int .i64 0, .int .i64 90] := rfl
theorem retP_some (l : List UInt8) (f : Nat → Bool) (r : List UInt8) : retP l (some (f, r)) = .tuple #[.agg (arr f), .int .i64 ((l.length : Int) - r.length), .int .i64 0] := rfl
end Go.Proofs.Ytmemdmjfccepgaa.cls
