/- Pieces: the law's examples come out. -/
import Derived.Test.YtpopnplncgpfkaaPceMuch
namespace Go.Proofs.Ytpopnplncgpfkaa.pce
open Go.RowKit Go.Lib
set_option linter.unusedVariables false
set_option linter.unusedSimpArgs false
set_option linter.unnecessarySimpa false
set_option linter.unusedSectionVars false

/-- A list that is written out. -/
theorem lit_srd (w : World) (zs : List ByteArray) : SRd (w.alloc (.cells (zs.map Value.string).toArray 9)) (w.alloc (.cells (zs.map Value.string).toArray 9)).heap.size (some ⟨w.heap.size, 0, none⟩) zs := by
  intro hn
  refine ⟨_, _, rfl, by simp, fun j hj => ?_⟩
  have hb := heap_alloc_new w (.cells (zs.map Value.string).toArray 9)
  rw [cell_of_row _ _ _ _ _ _ hb]
  simp [List.getD, List.getElem?_eq_getElem hj]
/-- A list against one that is written out. -/
theorem same_lit (A : Option Addr) (c n m : Nat) (xs ys : List ByteArray) (w : World) (o : Obj) (b : Bool) (ho : o = .cells (ys.map Value.string).toArray 9) (hn : n = xs.length) (hm : m = ys.length) (hn1 : n ≤ 100000) (hm1 : m ≤ 100000) (hb : decide (xs = ys) = b) (h : SRd w w.heap.size A xs) :
    Calls Try.prog 19 #[.slice A n c, .slice (some ⟨w.heap.size, 0, none⟩) m m] (w.alloc o) fun e w' => e = .returned (.bool b) ∧ Below w.heap.size w w' := by
  subst ho
  refine (same12_b A (some ⟨w.heap.size, 0, none⟩) c m n m xs ys _ b hn hm hn1 hm1 hb ((h.alloc (Nat.le_refl _) _).more (by simp)) (lit_srd w ys)).mono ?_
  rintro e w' ⟨rfl, hB⟩
  exact ⟨rfl, ((Below.refl _ w).alloc (Nat.le_refl _) _).trans (hB.mono (by simp))⟩

abbrev La : ByteArray := ⟨#[97]⟩
abbrev Lb : ByteArray := ⟨#[98]⟩
abbrev Lc : ByteArray := ⟨#[99]⟩
abbrev Lx : ByteArray := ⟨#[120]⟩
abbrev Ly : ByteArray := ⟨#[121]⟩
theorem fine_abc : Fine [La, Lb, Lc] := fine_chk.1 (by decide)
theorem fine_xy : Fine [Lx, Ly] := fine_chk.1 (by decide)

theorem newX (w : World) : Calls Try.prog 13 #[.slice (some ⟨w.heap.size, 0, none⟩) 3 3] (w.alloc (.cells #[.string La, .string Lb, .string Lc] 9)) fun e w' => ∃ v ps, e = .returned v ∧ Tab w' (w.heap.size ≤ ·) v ps ∧ Hid (texts ps = [La, Lb, Lc]) ∧ Below w.heap.size w w' := by
  refine (new_yes _ _ 3 3 [La, Lb, Lc] rfl (by decide) (fun h => by cases h) fine_abc (lit_srd w [La, Lb, Lc])).mono ?_
  rintro e w' ⟨v, ps, rfl, hT, hx, hB⟩
  exact ⟨v, ps, rfl, hT.mono (fun b hb _ => by have : w.heap.size + 1 ≤ b := by simpa using hb
                                               omega), hx, ((Below.refl _ w).alloc (Nat.le_refl _) _).trans (hB.mono (by simp))⟩

theorem spliceX (w : World) (F : Nat → Prop) (v : Value) (ps : List Pc) (h : Tab w F v ps) (hx : texts ps = [La, Lb, Lc]) :
    Calls Try.prog 17 #[v, .int .i64 1, .int .i64 1, .slice (some ⟨w.heap.size, 0, none⟩) 2 2] (w.alloc (.cells #[.string Lx, .string Ly] 9)) fun e w' =>
      ∃ v' ps', e = .returned (.tuple #[v', .int .i64 0]) ∧ Tab w' (fun b => F b ∨ w.heap.size ≤ b) v' ps' ∧ Hid (texts ps' = [La, Lx, Ly, Lc]) ∧ Below w.heap.size w w' := by
  have hB0 : Below w.heap.size w (w.alloc (.cells #[.string Lx, .string Ly] 9)) := (Below.refl _ w).alloc (Nat.le_refl _) _
  refine (splice_yes _ F v ps 1 1 (some ⟨w.heap.size, 0, none⟩) 2 2 [Lx, Ly] rfl (by decide) (fun h => by cases h) (lit_srd w [Lx, Ly]) (h.below hB0) (by rw [hx]; decide) fine_xy (by rw [hx]; decide)).mono ?_
  rintro e w' ⟨v', ps', rfl, hT, hx', _, hB⟩
  refine ⟨v', ps', rfl, hT.mono (fun b hb _ => hb.imp id (fun hb => ?_)), ?_, hB0.trans (hB.mono (by simp))⟩
  · have : w.heap.size + 1 ≤ b := by simpa using hb
    omega
  · rw [hx'] ; rw [hx]; rfl
theorem spliceY (w : World) (F : Nat → Prop) (v : Value) (ps : List Pc) (h : Tab w F v ps) (hx : texts ps = [La, Lb, Lc]) :
    Calls Try.prog 17 #[v, .int .i64 2, .int .i64 2, .slice none 0 0] w fun e w' => e = .returned (.tuple #[.pointer none, .int .i64 2]) ∧ Below w.heap.size w w' := by
  have e2 : splE (texts ps).length 2 2 [] = 2 := by rw [hx]; rfl
  refine (splice_is w F v ps 2 2 none 0 0 [] (by decide) (by decide) (by decide) (by decide) rfl (by decide) (fun _ => rfl) SRd.nil h).mono ?_
  rintro e w' ⟨hB, ⟨_, rfl⟩ | ⟨h0, _⟩⟩
  · rw [e2]; exact ⟨rfl, hB⟩
  · rw [e2] at h0; cases h0
theorem spliceZ (w : World) (F : Nat → Prop) (v : Value) (ps : List Pc) (h : Tab w F v ps) (hx : texts ps = [La, Lb, Lc]) :
    Calls Try.prog 17 #[v, .int .i64 0, .int .i64 3, .slice none 0 0] w fun e w' =>
      ∃ v' ps', e = .returned (.tuple #[v', .int .i64 0]) ∧ Tab w' (fun b => F b ∨ w.heap.size ≤ b) v' ps' ∧ Hid (texts ps' = []) ∧ Below w.heap.size w w' := by
  refine (splice_yes w F v ps 0 3 none 0 0 [] rfl (by decide) (fun _ => rfl) SRd.nil h (by rw [hx]; decide) Fine.nil (by rw [hx]; decide)).mono ?_
  rintro e w' ⟨v', ps', rfl, hT, hx', _, hB⟩
  refine ⟨v', ps', rfl, hT, ?_, hB⟩
  rw [hx'] ; rw [hx]; rfl
theorem lineX (w : World) (F : Nat → Prop) (v : Value) (ps : List Pc) (h : Tab w F v ps) (hx : texts ps = [La, Lx, Ly, Lc]) :
    Calls Try.prog 24 #[v, .int .i64 4] w fun e w' => e = .returned (.tuple #[.string Lc, .bool true]) ∧ Below w.heap.size w w' := by
  refine (line_is w F v ps 4 (by decide) (by decide) h).mono ?_
  rintro e w' ⟨rfl, hB⟩
  exact ⟨by rw [hx]; rfl, hB⟩

set_option maxHeartbeats 4000000 in
set_option maxRecDepth 100000 in
theorem does_is (w : World) : Calls Try.prog 16 #[] w fun e w' => e = .returned (.bool true) ∧ Below w.heap.size w w' := by
  go_enter Try.func16, Try.ntmps16
  go_wp2_with fail
  go_at_call 13
  refine (newX w).mono ?_
  rintro e w1 ⟨t, pt, rfl, hT1, X1, hB1⟩
  have hz1 := hB1.size
  have HB1 := Lib.hid hB1
  have T1 := Lib.hid hT1
  clear hB1 hT1
  go_wp2_with fail
  go_at_call 17
  refine (spliceX w1 _ t pt T1.out X1.out).mono ?_
  rintro e w2 ⟨u, pu, rfl, hT2, X2, hB2⟩
  have hz2 := hB2.size
  have HB2 := Lib.hid (HB1.out.trans (hB2.mono hz1))
  have T2 := Lib.hid (T1.out.below hB2)
  have U2 := Lib.hid hT2
  clear hB2 hT2 T1 HB1
  go_wp2_with fail
  go_at_call 17
  refine (spliceY w2 _ t pt T2.out X1.out).mono ?_
  rintro e w3 ⟨rfl, hB3⟩
  have hz3 := hB3.size
  have HB3 := Lib.hid (HB2.out.trans (hB3.mono (by omega)))
  have T3 := Lib.hid (T2.out.below hB3)
  have U3 := Lib.hid (U2.out.below hB3)
  clear hB3 T2 U2 HB2
  go_wp2_with fail
  go_at_call 17
  refine (spliceZ w3 _ t pt T3.out X1.out).mono ?_
  rintro e w4 ⟨v, pw, rfl, hV4, X4, hB4⟩
  have hz4 := hB4.size
  have HB4 := Lib.hid (HB3.out.trans (hB4.mono (by omega)))
  have T4 := Lib.hid (T3.out.below hB4)
  have U4 := Lib.hid (U3.out.below hB4)
  have V4 := Lib.hid hV4
  clear hB4 T3 U3 HB3 hV4
  go_wp2_with fail
  go_at_call 24
  refine (lineX w4 _ u pu U4.out X2.out).mono ?_
  rintro e w5 ⟨rfl, hB5⟩
  have hz5 := hB5.size
  have HB5 := Lib.hid (HB4.out.trans (hB5.mono (by omega)))
  have T5 := Lib.hid (T4.out.below hB5)
  have U5 := Lib.hid (U4.out.below hB5)
  have V5 := Lib.hid (V4.out.below hB5)
  clear hB5 T4 U4 V4 HB4
  go_wp2_with fail
  go_at_call 20
  refine (lawAll_is w5 _ u pu U5.out).mono ?_
  rintro e w6 ⟨x, rfl, A6, n6, c6, rfl, hn6, ho6, hB6⟩
  have hz6 := hB6.size
  have R6 := Lib.hid (VRd.of_own ho6).srd
  rw [X2.out] at hn6 R6
  obtain rfl : n6 = 4 := hn6
  have HB6 := Lib.hid (HB5.out.trans (hB6.mono (by omega)))
  have T6 := Lib.hid (T5.out.below hB6)
  have U6 := Lib.hid (U5.out.below hB6)
  have V6 := Lib.hid (V5.out.below hB6)
  clear hB6 T5 U5 V5 HB5 ho6
  go_wp2_with fail
  go_at_call 19
  refine (same_lit A6 c6 4 4 [La, Lx, Ly, Lc] [La, Lx, Ly, Lc] w6 _ true rfl rfl rfl (by decide) (by decide) (by simp) R6.out).mono ?_
  rintro e w7 ⟨rfl, hB7⟩
  have hz7 := hB7.size
  have HB7 := Lib.hid (HB6.out.trans (hB7.mono (by omega)))
  have T7 := Lib.hid (T6.out.below hB7)
  have U7 := Lib.hid (U6.out.below hB7)
  have V7 := Lib.hid (V6.out.below hB7)
  clear hB7 T6 U6 V6 HB6 R6
  go_wp2_with fail
  go_at_call 20
  refine (lawAll_is w7 _ t pt T7.out).mono ?_
  rintro e w8 ⟨x, rfl, A8, n8, c8, rfl, hn8, ho8, hB8⟩
  have hz8 := hB8.size
  have R8 := Lib.hid (VRd.of_own ho8).srd
  rw [X1.out] at hn8 R8
  obtain rfl : n8 = 3 := hn8
  have HB8 := Lib.hid (HB7.out.trans (hB8.mono (by omega)))
  have U8 := Lib.hid (U7.out.below hB8)
  have V8 := Lib.hid (V7.out.below hB8)
  clear hB8 T7 U7 V7 HB7 ho8
  go_wp2_with fail
  go_at_call 19
  refine (same_lit A8 c8 3 3 [La, Lb, Lc] [La, Lb, Lc] w8 _ true rfl rfl rfl (by decide) (by decide) (by simp) R8.out).mono ?_
  rintro e w9 ⟨rfl, hB9⟩
  have hz9 := hB9.size
  have HB9 := Lib.hid (HB8.out.trans (hB9.mono (by omega)))
  have U9 := Lib.hid (U8.out.below hB9)
  have V9 := Lib.hid (V8.out.below hB9)
  clear hB9 U8 V8 HB8 R8
  go_wp2_with fail
  go_at_call 26
  refine (lines_is w9 _ u pu 2 9 (by decide) (by decide) (by decide) (by decide) U9.out).mono ?_
  rintro e w10 ⟨x, rfl, A10, n10, c10, rfl, hn10, ho10, hB10⟩
  have hz10 := hB10.size
  have R10 := Lib.hid (VRd.of_own ho10).srd
  rw [X2.out] at hn10 R10
  obtain rfl : n10 = 3 := hn10
  have HB10 := Lib.hid (HB9.out.trans (hB10.mono (by omega)))
  have U10 := Lib.hid (U9.out.below hB10)
  have V10 := Lib.hid (V9.out.below hB10)
  clear hB10 U9 V9 HB9 ho10
  go_wp2_with fail
  go_at_call 19
  refine (same_lit A10 c10 3 3 [Lx, Ly, Lc] [Lx, Ly, Lc] w10 _ true rfl rfl rfl (by decide) (by decide) (by simp) R10.out).mono ?_
  rintro e w11 ⟨rfl, hB11⟩
  have hz11 := hB11.size
  have HB11 := Lib.hid (HB10.out.trans (hB11.mono (by omega)))
  have U11 := Lib.hid (U10.out.below hB11)
  have V11 := Lib.hid (V10.out.below hB11)
  clear hB11 U10 V10 HB10 R10
  go_wp2_with fail
  go_at_call 22
  refine (text_is w11 _ v pw (by rw [X4.out]; decide) V11.out).mono ?_
  rintro e w12 ⟨rfl, hB12⟩
  rw [X4.out]
  have hz12 := hB12.size
  have HB12 := Lib.hid (HB11.out.trans (hB12.mono (by omega)))
  have U12 := Lib.hid (U11.out.below hB12)
  have V12 := Lib.hid (V11.out.below hB12)
  clear hB12 U11 V11 HB11
  have hemp : B (joinL (bytesOf [])) = ⟨#[]⟩ := rfl
  rw [hemp]
  clear hemp
  go_wp2_with fail
  go_at_call 28
  refine (pieces_is w12 _ v pw V12.out).mono ?_
  rintro e w13 ⟨rfl, rfl⟩
  have hp0 : pw.length = 0 := by rw [(texts_zero V12.out.full).1 X4.out]; rfl
  rw [hp0]
  clear hp0
  go_wp2_with fail
  go_at_call 27
  refine (compact_is w12 _ u pu U12.out).mono ?_
  rintro e w13 ⟨c, pc, rfl, hC13, _, hl13, hB13⟩
  have hz13 := hB13.size
  have HB13 := Lib.hid (HB12.out.trans (hB13.mono (by omega)))
  rw [X2.out] at hl13
  have hl13 : pc.length = 1 := hl13
  have HL := Lib.hid hl13
  have C13 := Lib.hid hC13
  clear hB13 HB12 hl13 hC13 U12 V12
  go_wp2_with fail
  go_at_call 28
  refine (pieces_is w13 _ c pc C13.out).mono ?_
  rintro e w14 ⟨rfl, rfl⟩
  rw [HL.out]
  go_wp2
  go_ret
  exact ⟨rfl, HB13.out⟩
end Go.Proofs.Ytpopnplncgpfkaa.pce
