/- Core: the chapter's buffer, walked. -/
import Derived.Test.YtdbeedhedjhamaaCorNo
import Derived.Test.YtdbeedhedjhamaaLgsSame
namespace Go.Proofs.Ytdbeedhedjhamaa.cor
open Go.RowKit Go.Lib pce sps mrk
set_option linter.unusedVariables false
set_option linter.unusedSimpArgs false
set_option linter.unnecessarySimpa false
set_option linter.unusedSectionVars false

abbrev La : ByteArray := ⟨#[97]⟩
abbrev Lb : ByteArray := ⟨#[98]⟩
abbrev Lx : ByteArray := ⟨#[120]⟩
theorem lit_lst (w : World) (zs : List ByteArray) : Lst (w.alloc (.cells (zs.map Value.string).toArray 9)) (fun b => b = w.heap.size) (some ⟨w.heap.size, 0, none⟩) zs.length zs.length zs := by
  refine ⟨rfl, Nat.le_refl _, (fun h => by cases h), fun hn => ⟨w.heap.size, 0, rfl, rfl, by simp, fun j u hj => ?_⟩⟩
  rw [Nat.zero_add, (At.new w 9 (zs.map Value.string).toArray).cell j, List.getElem?_toArray]
  exact hj
def mA : M := ⟨[La, Lb], 2, noM⟩
def tD (A : Option Addr) (c : Nat) : Ct := ⟨0, 1, A, c, []⟩
def mB : M := mSpl mA (tD none 0)
theorem mB_L : mB.L = [Lb] := rfl
theorem mB_c : mB.c = 1 := by decide +kernel
theorem fineA : Fine [La, Lb] := fine_chk.1 (by decide +kernel)
theorem no_ct {w : World} : CtOk w (fun _ => False) (tD none 0) := ⟨by decide, by decide, by decide, by decide, ⟨rfl, Nat.le_refl _, fun _ => rfl, VRd.nil⟩, (fun z hz => by cases hz), Nat.zero_le _⟩
theorem spl1 : splE mA.L.length 0 1 [] = 0 := by decide +kernel
theorem spl2 : splE mB.L.length 1 0 [Lx] = 0 := by decide +kernel
set_option maxHeartbeats 8000000 in
set_option maxRecDepth 100000 in
theorem lives_is (w : World) : Calls Try.prog 6 #[] w fun e w' => e = .returned (.bool true) ∧ Below w.heap.size w w' := by
  obtain ⟨w1, hw1⟩ : ∃ w1, w.alloc (.cells #[.string La, .string Lb] 9) = w1 := ⟨_, rfl⟩
  have hB1 : Below w.heap.size w w1 := hw1 ▸ (Below.refl _ _).alloc (Nat.le_refl _) _
  have hL1 : Lst w1 (fun b => b = w.heap.size) (some ⟨w.heap.size, 0, none⟩) 2 2 [La, Lb] := hw1 ▸ lit_lst w [La, Lb]
  have K1 := Lib.hid (new_is w1 _ 2 2 [La, Lb] rfl (by omega) (fun h => by cases h) fineA hL1.srd)
  have HB1 := Lib.hid hB1
  clear hL1 hB1
  go_enter Try.func6, Try.ntmps6
  go_wp2_with fail
  clear hw1
  go_at_call 25
  refine K1.out.mono ?_
  rintro e w2 ⟨cb, G0, rfl, hC0⟩
  have hC0 : Cr w1.heap.size w1 cb ⟨mA, none, none, false⟩ G0 w2 := hC0
  have KCur := Lib.hid (cur_is hC0)
  have ec : (⟨mA, none, none, false⟩ : S).m.c = 2 := rfl
  rw [ec] at KCur
  clear ec
  go_wp2_with fail
  go_at_call 15
  (with_reducible refine KCur.out.mono ?_)
  rintro e w3 ⟨rfl, rfl⟩
  clear KCur
  have K2 := Lib.hid (splice_none hC0 rfl 0 0 none 0 0)
  go_wp2_with fail
  go_at_call 21
  (with_reducible refine K2.out.mono ?_)
  rintro e w3 ⟨rfl, hB3⟩
  clear K2
  have hC1 := hC0.move hB3
  clear hC0 hB3
  have K3 := Lib.hid (begin_is hC1 rfl)
  go_wp2_with fail
  go_at_call 20
  (with_reducible refine K3.out.mono ?_)
  rintro e w4 ⟨G1, rfl, hC2, _⟩
  clear K3 hC1
  have hC2 : Cr w1.heap.size w1 cb ⟨mA, none, some (mA, []), false⟩ G1 w4 := hC2
  have K4 : Hid (Calls Try.prog 21 #[.pointer (some ⟨cb, 0, none⟩), .agg #[.int .i64 0, .int .i64 1, .slice none 0 0]] w4 (SplSays w1.heap.size w1 w4 cb ⟨mA, none, some (mA, []), false⟩ G1 mA [] (tD none 0) 0)) := Lib.hid (splice_is hC2 mA [] rfl (Nat.zero_le _) (tD none 0) (fun _ => False) 0 spl1 no_ct (fun _ h => h.elim) (Nat.zero_le _))
  go_wp2_with fail
  go_at_call 21
  (with_reducible refine K4.out.mono ?_)
  rintro e w5 ⟨G2, _, rfl, ⟨h0, _⟩ | ⟨_, A5, c5, hC3⟩⟩
  · exact absurd rfl h0
  clear K4 hC2
  have hC3 : Cr w1.heap.size w1 cb ⟨mB, none, some (mA, [tD A5 c5]), false⟩ G2 w5 := hC3
  have KCur := Lib.hid (cur_is hC3)
  have ec : (⟨mB, none, some (mA, [tD A5 c5]), false⟩ : S).m.c = 1 := mB_c
  rw [ec] at KCur
  have KN := Lib.hid (n_is hC3)
  have en : (⟨mB, none, some (mA, [tD A5 c5]), false⟩ : S).m.L.length = 1 := by show mB.L.length = 1; rw [mB_L]; rfl
  rw [en] at KN
  clear ec en
  go_wp2_with fail
  go_at_call 15
  (with_reducible refine KCur.out.mono ?_)
  rintro e w6 ⟨rfl, rfl⟩
  clear KCur
  go_wp2_with fail
  go_at_call 12
  (with_reducible refine KN.out.mono ?_)
  rintro e w6 ⟨rfl, rfl⟩
  clear KN
  have K5 := Lib.hid (end_is hC3 mA [tD A5 c5] rfl (by simp))
  go_wp2_with fail
  go_at_call 22
  (with_reducible refine K5.out.mono ?_)
  rintro e w6 ⟨G3, _, ⟨h0, _⟩ | ⟨_, A6, c6, rfl, _, _, hC4⟩⟩
  · cases h0
  clear K5 hC3
  have hC4 : Cr w1.heap.size w1 cb ⟨mB, some mA, none, true⟩ G3 w6 := hC4
  have K6 := Lib.hid (dirty_is hC4)
  go_wp2_with fail
  go_at_call 19
  (with_reducible refine K6.out.mono ?_)
  rintro e w7 ⟨rfl, rfl⟩
  clear K6
  have K7 := Lib.hid (undo_is hC4 rfl mA rfl)
  go_wp2_with fail
  go_at_call 7
  (with_reducible refine K7.out.mono ?_)
  rintro e w7 ⟨A7, B7, c7, rfl, hT7, hC5, _⟩
  clear K7 hC4
  have hC5 : Cr w1.heap.size w1 cb ⟨mA, some mB, none, true⟩ G3 w7 := hC5
  have K8 := lines_is hC5 1 2 (by decide) (by decide) (by decide) (by decide)
  have K8 := Lib.hid K8
  go_wp2_with fail
  go_at_call 14
  (with_reducible refine K8.out.mono ?_)
  rintro e w8 ⟨x8, rfl, hr8⟩
  clear K8
  obtain ⟨A8, k8, c8, rfl, hL8, hB8⟩ := row_lst hr8
  have hL8 : Lst w8 (w7.heap.size ≤ ·) A8 k8 c8 [La, Lb] := hL8
  have hL8 := hL8.mono (F' := fun b => ¬ G3 b) (fun b hb _ hg => by have := (hC5.g b hg).2; omega)
  have hT8 := hT7.below hB8
  have hC6 := hC5.move hB8
  clear hr8 hT7 hC5 hB8
  have K9 := Lib.hid (undo_is hC6 rfl mB rfl)
  go_wp2_with fail
  go_at_call 7
  (with_reducible refine K9.out.mono ?_)
  rintro e w9 ⟨A9, B9, c9, rfl, _, hC7, hW9⟩
  clear K9 hC6
  have hC7 : Cr w1.heap.size w1 cb ⟨mB, some mA, none, true⟩ G3 w9 := hC7
  have hL9 := lst_went hL8 hW9
  have hT9 := cuts_went hT8 hW9
  clear hL8 hT8 hW9
  obtain ⟨b9, o9, rfl, _, d9, _⟩ := hT9.at (i := 0) (t := over mB.L.length B7 c7 mA.L) rfl
  have ed : (over mB.L.length B7 c7 mA.L).d = 1 := by show ((mB.L.length : Nat) : Int) = 1; rw [mB_L]; rfl
  rw [ed, Nat.zero_mul, Nat.add_zero] at d9
  clear ed
  obtain rfl : k8 = 2 := hL9.len
  have hLx := Lib.hid hL9
  have hC := Lib.hid hC7
  have HT := Lib.hid hT9
  clear hL9 hC7 hT9
  have hBx : Below w9.heap.size w9 (w9.alloc (.cells #[.string La, .string Lb] 9)) := (Below.refl _ _).alloc (Nat.le_refl _) _
  have KS := Lib.hid (lgs.same_lines A8 (some ⟨w9.heap.size, 0, none⟩) c8 2 _ 2 2 [La, Lb] (w9.alloc (.cells #[.string La, .string Lb] 9)) rfl rfl (by omega) (hLx.out.below hBx).srd (lit_lst w9 [La, Lb]).srd)
  have hC7 := hC.out.move hBx
  have hC7 := Lib.hid hC7
  clear hBx
  go_wp2_with fail
  go_at_call 27
  (with_reducible refine KS.out.mono ?_)
  rintro e w10 ⟨rfl, q, rfl⟩
  have hC8 := hC7.out.move (below_drewN (Below.refl _ _) q)
  generalize (w9.alloc (.cells #[.string La, .string Lb] 9)).drewN q = w10 at *
  have K10 := Lib.hid (begin_is hC8 rfl)
  have hC8 := Lib.hid hC8
  clear KS hC7 d9 hLx hC HT
  go_wp2_with fail
  go_at_call 20
  (with_reducible refine K10.out.mono ?_)
  rintro e w11 ⟨G4, rfl, hC9, _⟩
  clear K10 hC8
  obtain ⟨w12, hw12⟩ : ∃ w12, w11.alloc (.cells #[.string Lx] 9) = w12 := ⟨_, rfl⟩
  have hBy : Below w11.heap.size w11 w12 := hw12 ▸ (Below.refl _ _).alloc (Nat.le_refl _) _
  have hLy : Lst w12 (fun b => b = w11.heap.size) (some ⟨w11.heap.size, 0, none⟩) 1 1 [Lx] := hw12 ▸ lit_lst w11 [Lx]
  have hC10 : Cr w1.heap.size w1 cb ⟨mB, some mA, some (mB, []), true⟩ G4 w12 := hC9.move hBy
  have K11 : Hid (Calls Try.prog 21 #[.pointer (some ⟨cb, 0, none⟩), .agg #[.int .i64 1, .int .i64 0, .slice (some ⟨w11.heap.size, 0, none⟩) 1 1]] w12 (SplSays w1.heap.size w1 w12 cb ⟨mB, some mA, some (mB, []), true⟩ G4 mB [] ⟨1, 0, some ⟨w11.heap.size, 0, none⟩, 1, [Lx]⟩ 0)) :=
    Lib.hid (splice_is hC10 mB [] rfl (Nat.zero_le _) ⟨1, 0, some ⟨w11.heap.size, 0, none⟩, 1, [Lx]⟩ (fun b => b = w11.heap.size) 0 spl2 ⟨(show (-9223372036854775808 : Int) ≤ 1 by decide), (show (1 : Int) ≤ 9223372036854775807 by decide), (show (-9223372036854775808 : Int) ≤ 0 by decide), (show (0 : Int) ≤ 9223372036854775807 by decide), hLy, (fun z hz => by simp only [List.mem_singleton] at hz; subst hz; decide), (by show 1 ≤ maxLen; decide)⟩ (fun b hb hg => by have := (hC9.g b hg).2; omega) (by show 1 ≤ 10000; decide))
  clear hBy hLy hC9 hC10
  go_wp2_with fail
  go_at_call 21
  (with_reducible refine K11.out.mono ?_)
  rintro e w13 ⟨G5, _, rfl, ⟨h0, _⟩ | ⟨_, A13, c13, hC11⟩⟩
  · exact absurd rfl h0
  clear K11 hw12
  have K12 := Lib.hid (abort_is hC11 mB _ rfl)
  clear hC11
  go_wp2_with fail
  go_at_call 11
  (with_reducible refine K12.out.mono ?_)
  rintro e w14 ⟨rfl, hC12, _⟩
  clear K12
  have hC12 : Cr w1.heap.size w1 cb ⟨mB, some mA, none, true⟩ G5 w14 := hC12
  have KN := Lib.hid (n_is hC12)
  have en : (⟨mB, some mA, none, true⟩ : S).m.L.length = 1 := by show mB.L.length = 1; rw [mB_L]; rfl
  rw [en] at KN
  clear en
  have KLn := Lib.hid (lines_is hC12 1 1 (by decide) (by decide) (by decide) (by decide))
  go_wp2_with fail
  go_at_call 12
  (with_reducible refine KN.out.mono ?_)
  rintro e w15 ⟨rfl, rfl⟩
  clear KN
  go_wp2_with fail
  go_at_call 14
  (with_reducible refine KLn.out.mono ?_)
  rintro e w15 ⟨x15, rfl, hr⟩
  clear KLn
  obtain ⟨A15, k15, c15, rfl, hL15, hB15⟩ := row_lst hr
  have hL15 : Lst w15 (w14.heap.size ≤ ·) A15 k15 c15 [Lb] := hL15
  obtain rfl : k15 = 1 := hL15.len
  have hBz : Below w15.heap.size w15 (w15.alloc (.cells #[.string Lb] 9)) := (Below.refl _ _).alloc (Nat.le_refl _) _
  have KS := Lib.hid (lgs.same_lines A15 (some ⟨w15.heap.size, 0, none⟩) c15 1 _ 1 1 [Lb] (w15.alloc (.cells #[.string Lb] 9)) rfl rfl (by omega) (hL15.below hBz).srd (lit_lst w15 [Lb]).srd)
  have HF := Lib.hid (HB1.out.trans (((hC12.move hB15).move hBz).below.mono HB1.out.size))
  clear hC12 hr hL15 hB15 hBz
  go_wp2_with fail
  go_at_call 27
  (with_reducible refine KS.out.mono ?_)
  rintro e w16 ⟨rfl, q2, rfl⟩
  go_wp2
  go_ret
  exact ⟨rfl, below_drewN HF.out q2⟩
end Go.Proofs.Ytdbeedhedjhamaa.cor
