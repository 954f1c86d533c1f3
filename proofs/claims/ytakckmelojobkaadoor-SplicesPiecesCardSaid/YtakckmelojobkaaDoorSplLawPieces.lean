/- SplicesPieces, walked. -/
import Derived.Test.YtakckmelojobkaaDoorSplLawAll
namespace Go.Proofs.YtakckmelojobkaaDoor.sps
open Go.RowKit Go.Lib pce
set_option linter.unusedVariables false
set_option linter.unusedSimpArgs false
set_option linter.unnecessarySimpa false
set_option linter.unusedSectionVars false

set_option maxHeartbeats 4000000 in
set_option maxRecDepth 100000 in
theorem law7 (A : Option Addr) (n c : Nat) (zs : List ByteArray) (Bo : Option Addr) (m c' : Nat) (ts : List Ct) (w : World) (h : InL w A n c zs) (hm : m = ts.length) (hmb : m ≤ maxLen) (hC : Cuts w (· < w.heap.size) Bo ts) (hV : VarT w.heap.size w) :
    Calls Tryd.prog 7 #[.slice A n c, .slice Bo m c'] w fun e w' => e = .returned (.bool true) ∧ Below w.heap.size w w' := by
  have C1 := Lib.hid (great_in h 500 20000 (by omega) (by omega))
  have C2 := Lib.hid (much_is w _ Bo m c' ts 40 (by omega) hm hmb hC)
  have HI := Lib.hid h
  have HM := Lib.hid hm
  have HC := Lib.hid hC
  have HV := Lib.hid hV
  clear h hm hmb hC hV
  go_enter Tryd.func7, Tryd.ntmps7
  go_wp2_with fail
  go_at_call 9
  refine C1.out.mono ?_
  rintro e w' ⟨(rfl | ⟨rfl, g1, g2⟩), rfl⟩
  · go_wp2
    go_ret
    exact ⟨rfl, Below.refl _ _⟩
  have hn3 : n ≤ 500 := by rw [HI.out.lst.len]; exact g1
  clear C1 g1 g2
  go_wp2_with fail
  go_at_call 10
  refine C2.out.mono ?_
  rintro e w' ⟨(rfl | ⟨rfl, g1, g2⟩), rfl⟩
  · go_wp2
    go_ret
    exact ⟨rfl, Below.refl _ _⟩
  have hm6 : m ≤ 40 := by rw [HM.out]; exact g1
  have HF := Lib.hid g2
  clear C2 g1 g2
  by_cases hf : Fine zs
  · go_wp2_with fail
    go_at_call 24
    refine (new_yes w A n c zs HI.out.lst.len (by omega) HI.out.lst.nil hf HI.out.lst.srd).mono ?_
    rintro e w2 ⟨v, ps, rfl, hT, hx, hB2⟩
    obtain ⟨b1, rfl⟩ := hT.ptr
    have T1 := Lib.hid hT.any
    have L1 := Lib.hid (HI.out.lst.below hB2).any
    rw [← hx] at L1
    have HB2 := Lib.hid hB2
    clear hT hx hf hB2
    go_wp2
    go_loopg [5, 6, 7] m (fun g s5 s6 s7 wr => ∃ (k b : Nat) (ps : List Pc) (Aw : Option Addr) (nw cw : Nat), k ≤ m ∧ m - k ≤ g ∧ s7 = .int .i64 k ∧ s5 = .pointer (some ⟨b, 0, none⟩) ∧ s6 = .slice Aw nw cw ∧ Hid (Tb wr (.pointer (some ⟨b, 0, none⟩)) ps) ∧ Hid (Ls wr Aw nw cw (texts ps)) ∧ Hid (Below w.heap.size w wr))
    case atStart => exact ⟨0, b1, ps, A, n, c, Nat.zero_le _, by omega, rfl, rfl, rfl, T1, L1, HB2⟩
    case round =>
      obtain ⟨k, b, ps, Aw, nw, cw, hk, hg, rfl, rfl, rfl, T, HL, HB⟩ := hrel
      have hz := HB.out.size
      have hL2 : Hid ((texts ps).length ≤ 2000) := Lib.hid T.out.len
      have hnw : nw ≤ 2000 := by rw [HL.out.len]; exact hL2.out
      clear HB2 T1 L1
      by_cases hlt : k < m
      · obtain ⟨t, ht⟩ : ∃ t, ts[k]? = some t := ⟨_, List.getElem?_eq_getElem (by rw [← HM.out]; exact hlt)⟩
        have HC4 := Lib.hid (HC.out.below HB.out)
        have HOK := Lib.hid (HC4.out.each t (List.mem_of_getElem? ht))
        obtain ⟨bt, ot, hBt, ct0, ct1, ct2⟩ := HC4.out.at ht
        have hfew : t.ins.length ≤ 2100 := (HF.out t (List.mem_of_getElem? ht)).1
        have HFW := Lib.hid hfew
        subst hBt
        have hbl : bt < wr.heap.size := World.block_lt_of_cell? _ _ ct0
        obtain ⟨z, hzz⟩ : ∃ z, stp (texts ps) t = z := ⟨_, rfl⟩
        have HZ := Lib.hid hzz
        have KA := Lib.hid (apply_is (fun _ => True) Aw nw cw (texts ps) t.a t.d t.A t.ins.length t.c t.ins wr z (by rw [appK_fine T.out.fine]; exact hzz) HL.out (by omega) HOK.out.a1 HOK.out.a2 HOK.out.d1 HOK.out.d2 HOK.out.lst.any (by omega))
        clear ht hzz
        go_wp2_with fail
        go_at_call 12
        refine KA.out.mono ?_
        rintro e w3 hE
        by_cases h0 : z = 0
        · subst h0
          obtain ⟨A3, n3, c3, rfl, _, _, _, hv3, hn3, ho3, hB3⟩ := hE.yes
          injection hv3 with e1 e2 e3
          subst e1 e2 e3
          have hz3 := hB3.size
          have HB3 := Lib.hid (HB.out.trans (hB3.mono hz))
          have L3 := Lib.hid (lst_own hn3 ho3).any
          have T3 := Lib.hid (T.out.below hB3)
          have OK3 := Lib.hid (HOK.out.keep (fun b _ hb => hB3.block b hb) hz3)
          have f0 := (Below.cell hB3 (p := ⟨bt, ot + k * 3, none⟩) hbl).trans ct0
          have f1 := (Below.cell hB3 (p := ⟨bt, ot + k * 3 + 1, none⟩) hbl).trans ct1
          have f2 := (Below.cell hB3 (p := ⟨bt, ot + k * 3 + 2, none⟩) hbl).trans ct2
          have hbl3 : bt < w3.heap.size := by omega
          have HE0 : Hid (splE (texts ps).length t.a t.d t.ins = 0) := Lib.hid (stpE_pce.1 HZ.out)
          clear hE hn3 ho3 hB3 KA ct0 ct1 ct2 T HL HOK
          have M4 : More w3.heap.size w3 w3 := Below.refl _ _
          have M4' : More w3.heap.size w3 w3.drew := below_drew (Below.refl _ _)
          have SK : Hid (∀ W, More w3.heap.size w3 W → W.cell? ⟨bt, ot + k * 3, none⟩ = some (.int .i64 t.a) ∧ W.cell? ⟨bt, ot + k * 3 + 1, none⟩ = some (.int .i64 t.d) ∧ W.cell? ⟨bt, ot + k * 3 + 2, none⟩ = some (.slice t.A t.ins.length t.c) ∧ More w3.heap.size w3 W) := Lib.hid (fun W hW =>
            ⟨(Below.cell hW.to (p := ⟨bt, ot + k * 3, none⟩) hbl3).trans f0, (Below.cell hW.to (p := ⟨bt, ot + k * 3 + 1, none⟩) hbl3).trans f1, (Below.cell hW.to (p := ⟨bt, ot + k * 3 + 2, none⟩) hbl3).trans f2, hW⟩)
          have S4 := SK.out _ M4
          have S4' := SK.out _ M4'
          have K := Lib.hid (splice_good w3 _ ps t _ OK3.out (by omega) T3.out HE0.out)
          go_wp2_with fail
          go_region_held3 (fun W => W.cell? ⟨bt, ot + k * 3, none⟩ = some (.int .i64 t.a) ∧ W.cell? ⟨bt, ot + k * 3 + 1, none⟩ = some (.int .i64 t.d) ∧ W.cell? ⟨bt, ot + k * 3 + 2, none⟩ = some (.slice t.A t.ins.length t.c) ∧ More w3.heap.size w3 W) (first | assumption | exact ⟨by assumption, by assumption, by assumption, by assumption⟩)
            ((go_at_call 25; refine (K.out _ (held4 (by assumption))).mono ?_; rintro e w5 ⟨b5, p5, rfl, hT5, hx5, _, M5⟩; have S5 := SK.out w5 M5))
          have hz5 := M5.to.size
          have B5 := Lib.hid (HB3.out.trans (M5.to.mono (by omega)))
          have L5 := Lib.hid (L3.out.below M5.to)
          have X5 : Hid (texts p5 = nxt (texts ps) t) := hx5
          have T5 := Lib.hid hT5
          rw [show pce.spl (texts ps) t.a.toNat t.d.toNat t.ins = texts p5 from X5.out.symm] at L5
          clear hT5 hx5 S4 S4' M4 M4' K S5 M5 SK f0 f1 f2 L3 T3 OK3
          go_wp2
          go_roundg (m - (k + 1))
          case measure => omega
          case rel => exact ⟨k + 1, b5, p5, A3, n3, c3, by omega, by omega, by go_num, rfl, rfl, T5, L5, B5⟩
        · obtain ⟨rfl, hB3⟩ := hE.err h0
          have hz3 := hB3.size
          have HB3 := Lib.hid (HB.out.trans (hB3.mono hz))
          have L3 := Lib.hid (HL.out.below hB3)
          have T3 := Lib.hid (T.out.below hB3)
          have OK3 := Lib.hid (HOK.out.keep (fun b _ hb => hB3.block b hb) hz3)
          have f0 := (Below.cell hB3 (p := ⟨bt, ot + k * 3, none⟩) hbl).trans ct0
          have f1 := (Below.cell hB3 (p := ⟨bt, ot + k * 3 + 1, none⟩) hbl).trans ct1
          have f2 := (Below.cell hB3 (p := ⟨bt, ot + k * 3 + 2, none⟩) hbl).trans ct2
          have hbl3 : bt < w3.heap.size := by omega
          have hE5 : ¬ splE (texts ps).length t.a t.d t.ins = 0 := fun h => h0 (by rw [← HZ.out]; exact stpE_pce.2 h)
          obtain ⟨e5, he5⟩ : ∃ e5, splE (texts ps).length t.a t.d t.ins = e5 := ⟨_, rfl⟩
          rw [he5] at hE5
          have HE5 := Lib.hid (And.intro he5 hE5)
          have hz0 : (z == 0) = false := by simpa using h0
          have hz1 : (z != 0) = true := by rw [bne, hz0]; rfl
          have he0 : (e5 == 0) = false := by simpa using hE5
          clear hE hB3 KA ct0 ct1 ct2 T HL HOK he5 hE5
          have M4 : More w3.heap.size w3 w3 := Below.refl _ _
          have M4' : More w3.heap.size w3 w3.drew := below_drew (Below.refl _ _)
          have SK : Hid (∀ W, More w3.heap.size w3 W → W.cell? ⟨bt, ot + k * 3, none⟩ = some (.int .i64 t.a) ∧ W.cell? ⟨bt, ot + k * 3 + 1, none⟩ = some (.int .i64 t.d) ∧ W.cell? ⟨bt, ot + k * 3 + 2, none⟩ = some (.slice t.A t.ins.length t.c) ∧ More w3.heap.size w3 W) := Lib.hid (fun W hW =>
            ⟨(Below.cell hW.to (p := ⟨bt, ot + k * 3, none⟩) hbl3).trans f0, (Below.cell hW.to (p := ⟨bt, ot + k * 3 + 1, none⟩) hbl3).trans f1, (Below.cell hW.to (p := ⟨bt, ot + k * 3 + 2, none⟩) hbl3).trans f2, hW⟩)
          have S4 := SK.out _ M4
          have S4' := SK.out _ M4'
          have K := Lib.hid (splice_bad w3 _ ps t _ OK3.out (by omega) T3.out e5 HE5.out.1 HE5.out.2)
          go_wp2_with fail
          go_region_held3 (fun W => W.cell? ⟨bt, ot + k * 3, none⟩ = some (.int .i64 t.a) ∧ W.cell? ⟨bt, ot + k * 3 + 1, none⟩ = some (.int .i64 t.d) ∧ W.cell? ⟨bt, ot + k * 3 + 2, none⟩ = some (.slice t.A t.ins.length t.c) ∧ More w3.heap.size w3 W) (first | assumption | exact ⟨by assumption, by assumption, by assumption, by assumption⟩)
            ((go_at_call 25; refine (K.out _ (held4 (by assumption))).mono ?_; rintro e w5 ⟨rfl, M5⟩; have S5 := SK.out w5 M5))
          have hz5 := M5.to.size
          have B5 := Lib.hid (HB3.out.trans (M5.to.mono (by omega)))
          have L5 := Lib.hid (L3.out.below M5.to)
          have T5 := Lib.hid (T3.out.below M5.to)
          clear S4 S4' M4 M4' K S5 M5 SK f0 f1 f2 L3 T3 OK3
          go_wp2
          go_roundg (m - (k + 1))
          case measure => omega
          case rel => exact ⟨k + 1, b, ps, Aw, nw, cw, by omega, by omega, by go_num, rfl, rfl, T5, L5, B5⟩
      · have hkm : k = m := by omega
        subst hkm
        have CL := Lib.hid (len_is wr _ _ ps T.out)
        rw [← HL.out.len] at CL
        go_wp2_with fail
        go_at_call 27
        refine CL.out.mono ?_
        rintro e w4 ⟨rfl, rfl⟩
        clear CL
        go_wp2_with fail
        go_at_call 26
        refine (lines_is wr _ _ ps 1 (nw : Int) (by omega) (by omega) (by omega) (by omega) T.out).mono ?_
        rintro e w5 ⟨x, rfl, hR5⟩
        obtain ⟨A5, n5, c5, rfl, hL5, hB5⟩ := hR5.lst
        have e5 : ((texts ps).take (nw : Int).toNat).drop ((1 : Int) - 1).toNat = texts ps := by
          rw [show ((1 : Int) - 1).toNat = 0 by rfl, List.drop_zero, Int.toNat_natCast, HL.out.len, List.take_length]
        rw [e5] at hL5
        have M5 := Lib.hid hL5
        have L5 := Lib.hid (HL.out.below hB5)
        have HB5 := Lib.hid (HB.out.trans (hB5.mono hz))
        have hn5b : n5 ≤ 2000 := by rw [hL5.len]; exact hL2.out
        clear hR5 hL5 hB5 e5
        go_wp2_with fail
        go_at_call 16
        refine (same12_b A5 Aw c5 cw n5 nw _ _ w5 true M5.out.len L5.out.len (by omega) (by omega) (by simp) M5.out.srd L5.out.srd).mono ?_
        rintro e w6 ⟨rfl, hB6⟩
        have HB6 := Lib.hid (HB5.out.trans (hB6.mono HB5.out.size))
        clear hB6 HB5 M5 L5
        go_wp2_with fail
        go_at_call 21
        refine (does_is w6 ((HV.out.below HB6.out).more HB6.out.size)).mono ?_
        rintro e w7 ⟨rfl, hB7⟩
        have HB7 := Lib.hid (HB6.out.trans (hB7.mono HB6.out.size))
        clear hB7 HB6
        go_wp2
        go_ret
        exact ⟨rfl, HB7.out⟩
  · go_wp2_with fail
    go_at_call 24
    refine (new_no w A n c zs HI.out.lst.len (by omega) hf HI.out.lst.srd).mono ?_
    rintro e w2 ⟨rfl, hB2⟩
    have HB2 := Lib.hid hB2
    clear hf hB2
    go_wp2
    go_loopg [5, 7] 1 (fun g s5 s7 wr => wr = w2 ∧ s7 = .int .i64 0 ∧ s5 = .pointer none)
    case atStart => exact ⟨rfl, rfl, rfl⟩
    case round =>
      obtain ⟨hwr, rfl, rfl⟩ := hrel
      have hwr := hwr.symm
      subst hwr
      by_cases hm0 : 0 < m
      all_goals
        go_wp2_with fail
        go_at_call 21
        refine (does_is w2 ((HV.out.below HB2.out).more HB2.out.size)).mono ?_
        rintro e w7 ⟨rfl, hB7⟩
        have HB7 := Lib.hid (HB2.out.trans (hB7.mono HB2.out.size))
        clear hB7 HB2
        go_wp2
        go_ret
        exact ⟨rfl, HB7.out⟩
end Go.Proofs.YtakckmelojobkaaDoor.sps
