/- PiecesAsk, walked. -/
import Derived.Test.YtpopnplncgpfkaaPceLawBack
namespace Go.Proofs.Ytpopnplncgpfkaa.pce
open Go.RowKit Go.Lib
set_option linter.unusedVariables false
set_option linter.unusedSimpArgs false
set_option linter.unnecessarySimpa false
set_option linter.unusedSectionVars false

/-- The document's Splice, refused. -/
theorem ref_bad (w0 : World) (A : Option Addr) (n c : Nat) (L : List ByteArray) (h : Ls w0 A n c L) (hl : L.length ≤ 2000) (t : Ct) (F : Nat → Prop) (ht : CtOk w0 F t) (hm : t.ins.length ≤ 10000) (k : Int) (hk : splE L.length t.a t.d t.ins = k) (hk0 : ¬ k = 0) (W : World) (hW : More w0.heap.size w0 W) :
    Calls Try.prog 18 #[.slice A n c, .int .i64 t.a, .int .i64 t.d, .slice t.A t.ins.length t.c] W fun e w' => e = .returned (.tuple #[.slice none 0 0, .int .i64 k]) ∧ More w0.heap.size w0 w' := by
  subst hk
  refine (refSplice_is W (fun _ => True) A n c L t.a t.d t.A _ t.c t.ins ht.a1 ht.a2 ht.d1 ht.d2 (by rw [h.len]; exact hl) hm ht.size (h.below hW.to) (ht.lst.below hW.to).any).mono ?_
  rintro e w' ⟨hB, ⟨h0, rfl⟩ | ⟨h0, _⟩⟩
  · exact ⟨rfl, hW.to.trans (hB.mono hW.to.size)⟩
  · exact absurd h0 hk0
/-- The document's Splice, done. -/
theorem ref_good (w0 : World) (A : Option Addr) (n c : Nat) (L : List ByteArray) (h : Ls w0 A n c L) (hl : L.length ≤ 2000) (t : Ct) (F : Nat → Prop) (ht : CtOk w0 F t) (hm : t.ins.length ≤ 10000) (hk : splE L.length t.a t.d t.ins = 0) (W : World) (hW : More w0.heap.size w0 W) :
    Calls Try.prog 18 #[.slice A n c, .int .i64 t.a, .int .i64 t.d, .slice t.A t.ins.length t.c] W fun e w' => ∃ A' n' c', e = .returned (.tuple #[.slice A' n' c', .int .i64 0]) ∧ Lst w' (W.heap.size ≤ ·) A' n' c' (spl L t.a.toNat t.d.toNat t.ins) ∧ More w0.heap.size w0 w' := by
  refine (refSplice_is W (fun _ => True) A n c L t.a t.d t.A _ t.c t.ins ht.a1 ht.a2 ht.d1 ht.d2 (by rw [h.len]; exact hl) hm ht.size (h.below hW.to) (ht.lst.below hW.to).any).mono ?_
  rintro e w' ⟨hB, ⟨h0, _⟩ | ⟨h0, v, rfl, hR⟩⟩
  · exact absurd hk h0
  · obtain ⟨A', n', c', rfl, hL, _⟩ := hR.lst
    exact ⟨A', n', c', rfl, hL, hW.to.trans (hB.mono hW.to.size)⟩

set_option maxHeartbeats 4000000 in
set_option maxRecDepth 100000 in
theorem law4 (A : Option Addr) (n c : Nat) (zs : List ByteArray) (B : Option Addr) (m c' : Nat) (ts : List Ct) (q0 q1 q2 : Int) (w : World) (h : InL w A n c zs) (hm : m = ts.length) (hmb : m ≤ maxLen) (hC : Cuts w (· < w.heap.size) B ts)
    (a1 : -9223372036854775808 ≤ q0) (a2 : q0 ≤ 9223372036854775807) (a3 : -9223372036854775808 ≤ q1) (a4 : q1 ≤ 9223372036854775807) (a5 : -9223372036854775808 ≤ q2) (a6 : q2 ≤ 9223372036854775807) :
    Calls Try.prog 4 #[.slice A n c, .slice B m c', .agg #[.int .i64 q0, .int .i64 q1, .int .i64 q2]] w fun e w' => e = .returned (.bool true) ∧ Below w.heap.size w w' := by
  have C1 := Lib.hid (fun (W : World) (hW : Below w.heap.size w W) => (great A c w.heap.size n 500 20000 zs W h.lst.len (by have := h.few; unfold maxLen at this; omega) (by omega) (by omega) h.size (h.lst.srd.below hW)))
  have C2 := Lib.hid (fun (W : World) (hW : Below w.heap.size w W) => much_is W _ B m c' ts hm hmb (hC.below hW))
  have HI := Lib.hid h
  have HM := Lib.hid hm
  have HC := Lib.hid hC
  clear h hm hmb hC
  go_enter Try.func4, Try.ntmps4
  go_wp2_with fail
  go_at_call 10
  refine (C1.out _ ((Below.refl _ _).alloc (Nat.le_refl _) _)).mono ?_
  rintro e w1 ⟨hg, hw1⟩
  have P1 := Lib.hid (show At w1 w.heap.size 44 #[.int .i64 q0, .int .i64 q1, .int .i64 q2] by rw [← hw1]; exact At.new _ _ _)
  have B1 := Lib.hid (show Below w.heap.size w w1 by rw [← hw1]; exact (Below.refl _ _).alloc (Nat.le_refl _) _)
  have hz1 : w.heap.size < w1.heap.size := P1.out.lt
  clear hw1 C1
  rcases hg with rfl | ⟨rfl, g1, g2⟩
  · go_wp2
    all_goals
      go_ret
      exact ⟨rfl, B1.out⟩
  have hn5 : n ≤ 500 := by rw [HI.out.lst.len]; exact g1
  clear g1 g2
  go_wp2_with fail
  go_at_call 11
  refine (C2.out w1 B1.out).mono ?_
  rintro e w2 ⟨(rfl | ⟨rfl, g1, g2⟩), rfl⟩
  · go_wp2
    all_goals
      go_ret
      exact ⟨rfl, B1.out⟩
  have hm6 : m ≤ 60 := by rw [HM.out]; exact g1
  have HF := Lib.hid g2
  clear C2 g1 g2
  have HZ1 := Lib.hid (HI.out.lst.below B1.out)
  by_cases hf : Fine zs
  · go_wp2_with fail
    go_at_call 13
    refine (new_yes w1 A n c zs HI.out.lst.len (by omega) HI.out.lst.nil hf HZ1.out.srd).mono ?_
    rintro e w2 ⟨v, ps, rfl, hT, hx, hB2⟩
    obtain ⟨b1, rfl⟩ := hT.ptr
    have T1 := Lib.hid hT.any
    have L1 := Lib.hid (HZ1.out.below hB2).any
    rw [← hx] at L1
    have HB2 := Lib.hid hB2
    clear hT hx hf hB2 HZ1
    go_wp2
    go_loopg [7, 8, 9] m (fun g s7 s8 s9 wr => ∃ (k b : Nat) (ps : List Pc) (Aw : Option Addr) (nw cw : Nat), k ≤ m ∧ m - k ≤ g ∧ s9 = .int .i64 k ∧ s7 = .pointer (some ⟨b, 0, none⟩) ∧ s8 = .slice Aw nw cw ∧ Hid (Tb wr (.pointer (some ⟨b, 0, none⟩)) ps) ∧ Hid (Ls wr Aw nw cw (texts ps)) ∧ Hid (Below w1.heap.size w1 wr))
    case atStart => exact ⟨0, b1, ps, A, n, c, Nat.zero_le _, by omega, rfl, rfl, rfl, T1, L1, HB2⟩
    case round =>
      obtain ⟨k, b, ps, Aw, nw, cw, hk, hg, rfl, rfl, rfl, T, HL, HB⟩ := hrel
      have hz := HB.out.size
      have hL2 : Hid ((texts ps).length ≤ 2000) := Lib.hid T.out.len
      clear HB2 T1 L1
      by_cases hlt : k < m
      · obtain ⟨t, ht⟩ : ∃ t, ts[k]? = some t := ⟨_, List.getElem?_eq_getElem (by rw [← HM.out]; exact hlt)⟩
        have HC4 := Lib.hid ((HC.out.below B1.out).below HB.out)
        have HOK := Lib.hid (HC4.out.each t (List.mem_of_getElem? ht))
        obtain ⟨bt, ot, hBt, ct0, ct1, ct2⟩ := HC4.out.at ht
        have hfew : t.ins.length ≤ 2100 := (HF.out t (List.mem_of_getElem? ht)).1
        have HFW := Lib.hid hfew
        subst hBt
        have hbl : bt < wr.heap.size := World.block_lt_of_cell? _ _ ct0
        have M4 : More wr.heap.size wr wr := Below.refl _ _
        have M4' : More wr.heap.size wr wr.drew := below_drew (Below.refl _ _)
        have SK : Hid (∀ W, More wr.heap.size wr W → W.cell? ⟨bt, ot + k * 3, none⟩ = some (.int .i64 t.a) ∧ W.cell? ⟨bt, ot + k * 3 + 1, none⟩ = some (.int .i64 t.d) ∧ W.cell? ⟨bt, ot + k * 3 + 2, none⟩ = some (.slice t.A t.ins.length t.c) ∧ More wr.heap.size wr W) := Lib.hid (fun W hW =>
          ⟨(Below.cell hW.to (p := ⟨bt, ot + k * 3, none⟩) hbl).trans ct0, (Below.cell hW.to (p := ⟨bt, ot + k * 3 + 1, none⟩) hbl).trans ct1, (Below.cell hW.to (p := ⟨bt, ot + k * 3 + 2, none⟩) hbl).trans ct2, hW⟩)
        have S4 := SK.out _ M4
        have S4' := SK.out _ M4'
        by_cases hE : splE (texts ps).length t.a t.d t.ins = 0
        · have K := Lib.hid (splice_good wr _ ps t _ HOK.out (by omega) T.out hE)
          clear ht
          go_wp2_with fail
          go_region_held3 (fun W => W.cell? ⟨bt, ot + k * 3, none⟩ = some (.int .i64 t.a) ∧ W.cell? ⟨bt, ot + k * 3 + 1, none⟩ = some (.int .i64 t.d) ∧ W.cell? ⟨bt, ot + k * 3 + 2, none⟩ = some (.slice t.A t.ins.length t.c) ∧ More wr.heap.size wr W) (first | assumption | exact ⟨by assumption, by assumption, by assumption, by assumption⟩)
            ((go_at_call 17; refine (K.out _ (held4 (by assumption))).mono ?_; rintro e w5 ⟨b5, p5, rfl, hT5, hx5, _, M5⟩; have S5 := SK.out w5 M5))
          have hz5 := M5.to.size
          have B5 := Lib.hid (HB.out.trans (M5.to.mono hz))
          have L5 := Lib.hid (HL.out.below M5.to)
          have OK5 := Lib.hid (HOK.out.keep (fun b _ hb => M5.to.block b hb) hz5)
          have hbl5 : bt < w5.heap.size := by omega
          have e0 := S5.1
          have e1 := S5.2.1
          have e2 := S5.2.2.1
          have SJ : Hid (∀ W, More w5.heap.size w5 W → W.cell? ⟨bt, ot + k * 3, none⟩ = some (.int .i64 t.a) ∧ W.cell? ⟨bt, ot + k * 3 + 1, none⟩ = some (.int .i64 t.d) ∧ W.cell? ⟨bt, ot + k * 3 + 2, none⟩ = some (.slice t.A t.ins.length t.c) ∧ More w5.heap.size w5 W) := Lib.hid (fun W hW =>
            ⟨(Below.cell hW.to (p := ⟨bt, ot + k * 3, none⟩) hbl5).trans e0, (Below.cell hW.to (p := ⟨bt, ot + k * 3 + 1, none⟩) hbl5).trans e1, (Below.cell hW.to (p := ⟨bt, ot + k * 3 + 2, none⟩) hbl5).trans e2, hW⟩)
          have N5 : More w5.heap.size w5 w5 := Below.refl _ _
          have N5' : More w5.heap.size w5 w5.drew := below_drew (Below.refl _ _)
          have J5 := SJ.out _ N5
          have J5' := SJ.out _ N5'
          have T5 := Lib.hid hT5
          have X5 := hx5
          have R := Lib.hid (ref_good w5 Aw nw cw (texts ps) L5.out hL2.out t _ OK5.out (by omega) hE)
          clear hT5 hx5 S4 S4' M4 M4' K S5 M5 SK e0 e1 e2 ct0 ct1 ct2 N5 N5' hE
          go_wp2_with fail
          go_region_held3 (fun W => W.cell? ⟨bt, ot + k * 3, none⟩ = some (.int .i64 t.a) ∧ W.cell? ⟨bt, ot + k * 3 + 1, none⟩ = some (.int .i64 t.d) ∧ W.cell? ⟨bt, ot + k * 3 + 2, none⟩ = some (.slice t.A t.ins.length t.c) ∧ More w5.heap.size w5 W) (first | assumption | exact ⟨by assumption, by assumption, by assumption, by assumption⟩)
            ((go_at_call 18; refine (R.out _ (held4 (by assumption))).mono ?_; rintro e w6 ⟨A6, n6, c6, rfl, hL6, M6⟩; have S6 := SJ.out w6 M6))
          have hz6 := M6.to.size
          have B6 := Lib.hid (B5.out.trans (M6.to.mono (by omega)))
          have T6 := Lib.hid (T5.out.below M6.to)
          have L6 := Lib.hid hL6.any
          rw [← X5.out] at L6
          clear S6 M6 hL6 J5 J5' SJ R L5 OK5
          go_wp2
          go_roundg (m - (k + 1))
          case measure => omega
          case rel => exact ⟨k + 1, b5, p5, A6, n6, c6, by omega, by omega, by go_num, rfl, rfl, T6, L6, B6⟩
        · obtain ⟨e5, he5⟩ : ∃ e5, splE (texts ps).length t.a t.d t.ins = e5 := ⟨_, rfl⟩
          rw [he5] at hE
          have K := Lib.hid (splice_bad wr _ ps t _ HOK.out (by omega) T.out e5 he5 hE)
          have hEb : (e5 == 0) = false := by rw [beq_eq_false_iff_ne]; exact hE
          have HE5 := Lib.hid (And.intro he5 hE)
          clear ht hE he5
          go_wp2_with fail
          go_region_held3 (fun W => W.cell? ⟨bt, ot + k * 3, none⟩ = some (.int .i64 t.a) ∧ W.cell? ⟨bt, ot + k * 3 + 1, none⟩ = some (.int .i64 t.d) ∧ W.cell? ⟨bt, ot + k * 3 + 2, none⟩ = some (.slice t.A t.ins.length t.c) ∧ More wr.heap.size wr W) (first | assumption | exact ⟨by assumption, by assumption, by assumption, by assumption⟩)
            ((go_at_call 17; refine (K.out _ (held4 (by assumption))).mono ?_; rintro e w5 ⟨rfl, M5⟩; have S5 := SK.out w5 M5))
          have hz5 := M5.to.size
          have B5 := Lib.hid (HB.out.trans (M5.to.mono hz))
          have L5 := Lib.hid (HL.out.below M5.to)
          have OK5 := Lib.hid (HOK.out.keep (fun b _ hb => M5.to.block b hb) hz5)
          have hbl5 : bt < w5.heap.size := by omega
          have e0 := S5.1
          have e1 := S5.2.1
          have e2 := S5.2.2.1
          have SJ : Hid (∀ W, More w5.heap.size w5 W → W.cell? ⟨bt, ot + k * 3, none⟩ = some (.int .i64 t.a) ∧ W.cell? ⟨bt, ot + k * 3 + 1, none⟩ = some (.int .i64 t.d) ∧ W.cell? ⟨bt, ot + k * 3 + 2, none⟩ = some (.slice t.A t.ins.length t.c) ∧ More w5.heap.size w5 W) := Lib.hid (fun W hW =>
            ⟨(Below.cell hW.to (p := ⟨bt, ot + k * 3, none⟩) hbl5).trans e0, (Below.cell hW.to (p := ⟨bt, ot + k * 3 + 1, none⟩) hbl5).trans e1, (Below.cell hW.to (p := ⟨bt, ot + k * 3 + 2, none⟩) hbl5).trans e2, hW⟩)
          have N5 : More w5.heap.size w5 w5 := Below.refl _ _
          have N5' : More w5.heap.size w5 w5.drew := below_drew (Below.refl _ _)
          have J5 := SJ.out _ N5
          have J5' := SJ.out _ N5'
          have T5 := Lib.hid (T.out.below M5.to)
          have R := Lib.hid (ref_bad w5 Aw nw cw (texts ps) L5.out hL2.out t _ OK5.out (by omega) e5 HE5.out.1 HE5.out.2)
          clear S4 S4' M4 M4' K S5 M5 SK e0 e1 e2 ct0 ct1 ct2 N5 N5'
          go_wp2_with fail
          go_region_held3 (fun W => W.cell? ⟨bt, ot + k * 3, none⟩ = some (.int .i64 t.a) ∧ W.cell? ⟨bt, ot + k * 3 + 1, none⟩ = some (.int .i64 t.d) ∧ W.cell? ⟨bt, ot + k * 3 + 2, none⟩ = some (.slice t.A t.ins.length t.c) ∧ More w5.heap.size w5 W) (first | assumption | exact ⟨by assumption, by assumption, by assumption, by assumption⟩)
            ((go_at_call 18; refine (R.out _ (held4 (by assumption))).mono ?_; rintro e w6 ⟨rfl, M6⟩; have S6 := SJ.out w6 M6))
          have hz6 := M6.to.size
          have B6 := Lib.hid (B5.out.trans (M6.to.mono (by omega)))
          have T6 := Lib.hid (T5.out.below M6.to)
          have L6 := Lib.hid (L5.out.below M6.to)
          clear S6 M6 J5 J5' SJ R L5 OK5
          go_wp2
          go_roundg (m - (k + 1))
          case measure => omega
          case rel => exact ⟨k + 1, b, ps, Aw, nw, cw, by omega, by omega, by go_num, rfl, rfl, T6, L6, B6⟩
      · have hkm : k = m := by omega
        subst hkm
        have P3 := Lib.hid (P1.out.same (HB.out.block _ hz1))
        have ct0 := P3.out.cell 0
        have ct1 := P3.out.cell 1
        have ct2 := P3.out.cell 2
        simp at ct0 ct1 ct2
        obtain ⟨o, ho⟩ : ∃ o, lineAt (texts ps) q2 = o := ⟨_, rfl⟩
        have K1 := Lib.hid (line_is wr _ _ ps q2 a5 a6 T.out)
        rw [ho] at K1
        have hnw : nw ≤ 2000 := by rw [HL.out.len]; exact hL2.out
        have HO := Lib.hid ho
        clear ho
        rcases o with _ | s
        all_goals
          go_wp2_with fail
          go_at_call 24
          refine K1.out.mono ?_
          rintro e w2 ⟨rfl, hB2⟩
          unfold told
          have hz2 := hB2.size
          have P4 := Lib.hid (P3.out.same (hB2.block _ (by omega)))
          have T2 := Lib.hid (T.out.below hB2)
          have L2 := Lib.hid (HL.out.below hB2)
          have B2 := Lib.hid (HB.out.trans (hB2.mono hz))
          clear hB2 K1 ct0 ct1 ct2
          have ct0 := P4.out.cell 0
          have ct1 := P4.out.cell 1
          have ct2 := P4.out.cell 2
          simp at ct0 ct1 ct2
          go_wp2_with fail
          go_at_call 25
          refine (refLines_is w2 _ Aw nw cw (texts ps) q2 q2 a5 a6 a5 a6 hnw L2.out).mono ?_
          rintro e w3 ⟨x, rfl, A3, n3, c3, rfl, hn3, ho3, hB3⟩
          rw [line_list, HO.out] at hn3 ho3
          have hz3 := hB3.size
          have P5 := Lib.hid (P4.out.same (hB3.block _ (by omega)))
          have T3 := Lib.hid (T2.out.below hB3)
          have L3 := Lib.hid (L2.out.below hB3)
          have B3 := Lib.hid (B2.out.trans (hB3.mono (by omega)))
          clear hB3 P4 T2 L2 B2 ct0 ct1 ct2
          have ct0 := P5.out.cell 0
          have ct1 := P5.out.cell 1
          have ct2 := P5.out.cell 2
          simp at ct0 ct1 ct2
          first
            | (obtain rfl : n3 = 1 := hn3
               obtain ⟨b3, o3, rfl, _, _, hc3⟩ := VRd.of_own ho3 (by simp)
               have g3 : w3.cell? ⟨b3, o3, none⟩ = some (.string s) := by have := hc3 0 (.string s) (by simp); simpa using this
               clear hc3 ho3)
            | (obtain rfl : n3 = 0 := hn3
               clear ho3)
          go_wp2_with fail
          go_at_call 26
          refine (lines_is w3 _ _ ps q0 q1 a1 a2 a3 a4 T3.out).mono ?_
          rintro e w4 ⟨x, rfl, A4, n4, c4, rfl, hn4, ho4, hB4⟩
          have hz4 := hB4.size
          have P6 := Lib.hid (P5.out.same (hB4.block _ (by omega)))
          have T4 := Lib.hid (T3.out.below hB4)
          have L4 := Lib.hid (L3.out.below hB4)
          have D4 := Lib.hid hB4
          have O4 := Lib.hid ho4
          have HN4 := Lib.hid hn4
          have hn4b : n4 ≤ 2000 := by rw [hn4, List.length_drop, List.length_take]; have := T3.out.len; omega
          clear hB4 ho4 hn4 P5 ct0 ct1 ct2
          have ct0 := P6.out.cell 0
          have ct1 := P6.out.cell 1
          have ct2 := P6.out.cell 2
          simp at ct0 ct1 ct2
          go_wp2_with fail
          go_at_call 25
          refine (refLines_is w4 _ Aw nw cw (texts ps) q0 q1 a1 a2 a3 a4 hnw L4.out).mono ?_
          rintro e w5 ⟨x, rfl, hR5⟩
          obtain ⟨A5, n5, c5, rfl, hL5, hB5⟩ := hR5.lst
          have hz5 := hB5.size
          have T5 := Lib.hid (T4.out.below hB5)
          have L5 := Lib.hid (L4.out.below hB5)
          have D5 := Lib.hid (D4.out.trans (hB5.mono (by omega)))
          have O5 := Lib.hid (own_keep O4.out hB5)
          have M5 := Lib.hid hL5
          have hn5b : n5 ≤ 2000 := by rw [hL5.len, List.length_drop, List.length_take]; have := T4.out.len; omega
          clear hB5 hL5 hR5 T4 L4 D4 O4 P6
          go_wp2_with fail
          go_at_call 19
          refine (same12_b A4 A5 c4 c5 n4 n5 _ _ w5 true HN4.out M5.out.len (by omega) (by omega) (by simp) (VRd.of_own O5.out).srd M5.out.srd).mono ?_
          rintro e w6 ⟨rfl, hB6⟩
          have hz6 := hB6.size
          have D6 := D5.out.trans (hB6.mono (by omega))
          have O6 := own_keep O5.out hB6
          clear hB6 T5 L5 D5 O5 M5 ct0 ct1 ct2
          go_wp2_with fail
          go_loopg [18] n4 (fun g s18 wq => ∃ (j : Nat) (us : List Value), j ≤ n4 ∧ n4 - j ≤ g ∧ s18 = .int .i64 j ∧ wq.ownsRow w3.heap.size 9 1 (.slice A4 n4 c4) n4 us ∧ Below w3.heap.size w3 wq)
          case atStart => exact ⟨0, _, Nat.zero_le _, by omega, rfl, O6, D6⟩
          case round =>
            obtain ⟨j, us, hj, hg, rfl, ho1, hBr⟩ := hrel
            clear O6 D6
            by_cases hjl : j < n4
            · obtain ⟨g, cap, hv, hgb, hgl⟩ := ho1.form (by omega)
              obtain ⟨hA, rfl⟩ : A4 = some ⟨g, 0, none⟩ ∧ c4 = cap := by injection hv with h1 h2 h3; exact ⟨h1, h3⟩
              subst hA
              have hus : j < us.length := by rw [ho1.1]; omega
              have hcell := ho1.cellAt j (by omega)
              rw [List.getElem?_eq_getElem hus] at hcell
              have hfr := ho1.frozenAt j
              have hst := Lib.hid (ho1.stored j (.string ⟨#[63]⟩)).1
              have hB' := Lib.hid (hBr.setCell (p := ⟨g, j, none⟩) hgb (.string ⟨#[63]⟩))
              clear hv ho1 hBr
              go_wp2
              go_roundg (n4 - (j + 1))
              case measure => omega
              case rel => exact ⟨j + 1, _, by omega, by omega, by go_num, hst.out, hB'.out⟩
            · have hjk : j = n4 := by omega
              subst hjk
              have hz6 := hBr.size
              have T7 := Lib.hid (T3.out.below hBr)
              have L7 := Lib.hid (L3.out.below hBr)
              have B7 := Lib.hid (B1.out.trans ((B3.out.trans (hBr.mono (by omega))).mono (by omega)))
              clear ho1 hBr
              go_wp2_with fail
              go_at_call 20
              refine (lawAll_is _ _ _ ps T7.out).mono ?_
              rintro e w8 ⟨x, rfl, hR8⟩
              obtain ⟨A8, n8, c8, rfl, hL8, hB8⟩ := hR8.lst
              have hz8 := hB8.size
              have L8 := Lib.hid (L7.out.below hB8)
              have B8 := Lib.hid (B7.out.trans (hB8.mono (by omega)))
              have M8 := Lib.hid hL8
              have hn8b : n8 ≤ 2000 := by rw [hL8.len]; exact T7.out.len
              clear hB8 hL8 hR8 T7 L7 B7
              go_wp2_with fail
              go_at_call 19
              refine (same12_b A8 Aw c8 cw n8 nw _ _ w8 true M8.out.len L8.out.len (by omega) (by omega) (by simp) M8.out.srd L8.out.srd).mono ?_
              rintro e w9 ⟨rfl, hB9⟩
              have hz9 := hB9.size
              have B9 := Lib.hid (B8.out.trans (hB9.mono (by omega)))
              clear hB9 B8 M8 L8
              go_wp2_with fail
              go_at_call 16
              refine (does_is w9).mono ?_
              rintro e w10 ⟨rfl, hB10⟩
              have B10 := Lib.hid (B9.out.trans (hB10.mono (by omega)))
              clear hB10 B9
              go_wp2
              go_ret
              exact ⟨rfl, B10.out⟩
  · have hk0 : ¬ chk zs = 0 := fun e => hf (fine_chk.1 e)
    have hkb : (chk zs == 0) = false := by rw [beq_eq_false_iff_ne]; exact hk0
    have R1 := Lib.hid (fun (W : World) (hW : Below w1.heap.size w1 W) => refChk A c n zs W _ rfl HI.out.lst.len (by omega) HI.out.size (HZ1.out.below hW).srd)
    go_wp2_with fail
    go_at_call 13
    refine (new_no w1 A n c zs HI.out.lst.len (by omega) hf HZ1.out.srd).mono ?_
    rintro e w3 ⟨rfl, hB3⟩
    have hz3 := hB3.size
    have B3 := Lib.hid (B1.out.trans (hB3.mono (by omega)))
    have R3 := Lib.hid (R1.out w3 hB3)
    obtain ⟨kk, hkk⟩ : ∃ kk, chk zs = kk := ⟨_, rfl⟩
    rw [hkk] at R3 hkb hk0
    have hkn : (kk != 0) = true := by rw [bne, hkb]; rfl
    clear hf hB3 R1 hkk
    go_wp2_with fail
    go_at_call 15
    refine R3.out.mono ?_
    rintro e w4 ⟨rfl, rfl⟩
    go_wp2_with fail
    go_at_call 16
    refine (does_is w3).mono ?_
    rintro e w4 ⟨rfl, hB4⟩
    have B4 := Lib.hid (B3.out.trans (hB4.mono (by omega)))
    go_wp2
    go_ret
    exact ⟨rfl, B4.out⟩
end Go.Proofs.Ytpopnplncgpfkaa.pce
