/- PiecesMany, walked. -/
import Derived.Test.YtpopnplncgpfkaaPceLawNone
import Derived.Deep.RegionHeld3
namespace Go.Proofs.Ytpopnplncgpfkaa.pce
open Go.RowKit Go.Lib
set_option linter.unusedVariables false
set_option linter.unusedSimpArgs false
set_option linter.unnecessarySimpa false
set_option linter.unusedSectionVars false

/-- A table, wherever its blocks are. -/
abbrev Tb (w : World) (v : Value) (ps : List Pc) : Prop := Tab w (fun _ => True) v ps
theorem Tab.any {w : World} {F : Nat → Prop} {v : Value} {ps : List Pc} (h : Tab w F v ps) : Tb w v ps := h.mono fun _ _ _ => trivial
theorem Tab.ptr {w : World} {F : Nat → Prop} {v : Value} {ps : List Pc} (h : Tab w F v ps) : ∃ b, v = .pointer (some ⟨b, 0, none⟩) := by
  obtain ⟨b, _, _, _, hv, _⟩ := h; exact ⟨b, hv⟩

/-- A splice that is refused, wherever between w0 and later it is asked for. -/
theorem splice_bad (w0 : World) (v : Value) (ps : List Pc) (t : Ct) (F : Nat → Prop) (ht : CtOk w0 F t) (hl : t.ins.length ≤ 100000) (h : Tb w0 v ps) (k : Int) (hk : splE (texts ps).length t.a t.d t.ins = k) (hk0 : ¬ k = 0) (W : World) (hW : More w0.heap.size w0 W) :
    Calls Try.prog 17 #[v, .int .i64 t.a, .int .i64 t.d, .slice t.A t.ins.length t.c] W fun e w' => e = .returned (.tuple #[.pointer none, .int .i64 k]) ∧ More w0.heap.size w0 w' := by
  subst hk
  have hz := hW.to.size
  refine (splice_is W _ v ps t.a t.d t.A _ t.c t.ins ht.a1 ht.a2 ht.d1 ht.d2 rfl hl ht.lst.nil (ht.lst.below hW).srd (h.below hW)).mono ?_
  rintro e w' ⟨hB, ⟨h0, rfl⟩ | ⟨h0, _⟩⟩
  · exact ⟨rfl, hW.to.trans (hB.mono hz)⟩
  · exact absurd h0 hk0
/-- One that is done. -/
theorem splice_good (w0 : World) (v : Value) (ps : List Pc) (t : Ct) (F : Nat → Prop) (ht : CtOk w0 F t) (hl : t.ins.length ≤ 100000) (h : Tb w0 v ps) (hk : splE (texts ps).length t.a t.d t.ins = 0) (W : World) (hW : More w0.heap.size w0 W) :
    Calls Try.prog 17 #[v, .int .i64 t.a, .int .i64 t.d, .slice t.A t.ins.length t.c] W fun e w' => ∃ b ps', e = .returned (.tuple #[.pointer (some ⟨b, 0, none⟩), .int .i64 0]) ∧
      Tb w' (.pointer (some ⟨b, 0, none⟩)) ps' ∧ Hid (texts ps' = spl (texts ps) t.a.toNat t.d.toNat t.ins) ∧ Hid (ps'.length ≤ ps.length + 2) ∧ More w0.heap.size w0 w' := by
  have hz := hW.to.size
  refine (splice_is W _ v ps t.a t.d t.A _ t.c t.ins ht.a1 ht.a2 ht.d1 ht.d2 rfl hl ht.lst.nil (ht.lst.below hW).srd (h.below hW)).mono ?_
  rintro e w' ⟨hB, ⟨h0, _⟩ | ⟨h0, v', ps', rfl, hT, hx, hp⟩⟩
  · exact absurd hk h0
  · obtain ⟨b, rfl⟩ := hT.ptr
    exact ⟨b, ps', rfl, hT.any, hx, hp, hW.to.trans (hB.mono hz)⟩
theorem held4 {P Q R : Prop} {n : Nat} {wb W : World} (h : P ∧ Q ∧ R ∧ More n wb W) : More n wb W := h.2.2.2

set_option maxHeartbeats 4000000 in
set_option maxRecDepth 100000 in
theorem law8 (A : Option Addr) (n c : Nat) (zs : List ByteArray) (B : Option Addr) (m c' : Nat) (ts : List Ct) (w : World) (h : InL w A n c zs) (hm : m = ts.length) (hmb : m ≤ maxLen) (hC : Cuts w (· < w.heap.size) B ts) :
    Calls Try.prog 8 #[.slice A n c, .slice B m c'] w fun e w' => e = .returned (.bool true) ∧ Below w.heap.size w w' := by
  have C1 := Lib.hid (great_in h 300 10000 (by omega) (by omega))
  have C2 := Lib.hid (much_is w _ B m c' ts hm hmb hC)
  have HI := Lib.hid h
  have HM := Lib.hid hm
  have HC := Lib.hid hC
  clear h hm hmb hC
  go_enter Try.func8, Try.ntmps8
  go_wp2_with fail
  go_at_call 10
  refine C1.out.mono ?_
  rintro e w' ⟨(rfl | ⟨rfl, g1, g2⟩), rfl⟩
  · go_wp2
    go_ret
    exact ⟨rfl, Below.refl _ _⟩
  have hn3 : n ≤ 300 := by rw [HI.out.lst.len]; exact g1
  clear C1 g1 g2
  go_wp2_with fail
  go_at_call 11
  refine C2.out.mono ?_
  rintro e w' ⟨(rfl | ⟨rfl, g1, g2⟩), rfl⟩
  · go_wp2
    go_ret
    exact ⟨rfl, Below.refl _ _⟩
  have hm6 : m ≤ 60 := by rw [HM.out]; exact g1
  have HF := Lib.hid g2
  clear C2 g1 g2
  by_cases hf : Fine zs
  · go_wp2_with fail
    go_at_call 13
    refine (new_yes w A n c zs HI.out.lst.len (by omega) HI.out.lst.nil hf HI.out.lst.srd).mono ?_
    rintro e w1 ⟨v, ps, rfl, hT, hx, hB1⟩
    obtain ⟨b1, rfl⟩ := hT.ptr
    have T1 := Lib.hid hT.any
    clear hT hx hf
    go_wp2
    go_loopg [5, 6] m (fun g s5 s6 wr => ∃ (k b : Nat) (ps : List Pc), k ≤ m ∧ m - k ≤ g ∧ s6 = .int .i64 k ∧ s5 = .pointer (some ⟨b, 0, none⟩) ∧ Hid (Tb wr (.pointer (some ⟨b, 0, none⟩)) ps) ∧ Below w.heap.size w wr)
    case atStart => exact ⟨0, b1, ps, Nat.zero_le _, by omega, rfl, rfl, T1, hB1⟩
    case round =>
      obtain ⟨k, b, ps, hk, hg, rfl, rfl, T, hB⟩ := hrel
      have HB := Lib.hid hB
      have hz := hB.size
      clear hB hB1 T1
      obtain ⟨p, hp⟩ : ∃ p : Int, ((ps.length : Nat) : Int) = p := ⟨_, rfl⟩
      obtain ⟨L, hL⟩ : ∃ L : Int, (((texts ps).length : Nat) : Int) = L := ⟨_, rfl⟩
      have hpL : p ≤ L := by have := texts_len T.out.full; omega
      have hp0 : 0 ≤ p := by omega
      have hL2 : L ≤ 2000 := by have := T.out.len; omega
      have hzero : (p = 0 ∧ L = 0) ∧ Hid (((cnt (texts ps) : Nat) : Int) = 0) ∧ min 1 L = 0 ∨ (1 ≤ p ∧ 1 ≤ L) ∧ Hid (((cnt (texts ps) : Nat) : Int) = 1) ∧ (p == 0) = false ∧ (L == 0) = false ∧ min 1 L = 1 := by
        rcases Nat.eq_zero_or_pos (texts ps).length with h0 | h0
        · exact .inl ⟨⟨by omega, by omega⟩, Lib.hid (by unfold cnt; rw [if_pos (List.eq_nil_of_length_eq_zero h0)]; rfl), by omega⟩
        · have h2 : 1 ≤ p := by
            rcases Nat.eq_zero_or_pos ps.length with h1 | h1
            · have e : ps = [] := List.eq_nil_of_length_eq_zero h1
              rw [e] at h0
              simp [texts] at h0
            · omega
          refine .inr ⟨⟨h2, by omega⟩, Lib.hid (by unfold cnt; rw [if_neg (fun e => by rw [e] at h0; simp at h0)]; rfl), ?_, ?_, ?_⟩
          · rw [beq_eq_false_iff_ne]; omega
          · rw [beq_eq_false_iff_ne]; omega
          · omega
      have CP := Lib.hid (fun W (hW : Below wr.heap.size wr W) => pieces_is W _ _ ps (T.out.below hW))
      have CL := Lib.hid (fun W (hW : Below wr.heap.size wr W) => len_is W _ _ ps (T.out.below hW))
      rw [hp] at CP
      rw [hL] at CL
      have HP := Lib.hid hp
      clear hp hL
      rcases hzero with ⟨⟨rfl, rfl⟩, hcnt, hmin⟩ | ⟨⟨hp1, hL1⟩, hcnt, hpb, hLb, hmin⟩
      all_goals
        go_wp2_with fail
        go_at_call 28
        refine (CP.out wr (Below.refl _ _)).mono ?_
        rintro e w1 ⟨rfl, rfl⟩
        go_wp2_with fail
        go_at_call 21
        refine (CL.out wr (Below.refl _ _)).mono ?_
        rintro e w1 ⟨rfl, rfl⟩
        go_wp2_with fail
        go_at_call 21
        refine (CL.out wr (Below.refl _ _)).mono ?_
        rintro e w1 ⟨rfl, rfl⟩
        go_wp2_with fail
        go_at_call 27
        refine (compact_is wr _ _ ps T.out).mono ?_
        rintro e w1 ⟨cv, pc, rfl, hC1, hx1, hl1, hB1⟩
        obtain ⟨bc, rfl⟩ := hC1.ptr
        have hz1 := hB1.size
        have CQ := Lib.hid (pieces_is w1 _ _ pc hC1)
        rw [hl1, hcnt.out] at CQ
        have B1 := Lib.hid hB1
        have QC := Lib.hid hC1.any
        have HX := Lib.hid hx1
        clear hB1 hC1 hx1 hl1
        go_wp2_with fail
        go_at_call 28
        refine CQ.out.mono ?_
        rintro e w2 ⟨rfl, rfl⟩
        clear CQ
        go_wp2_with fail
        go_at_call 21
        refine (CL.out w1 B1.out).mono ?_
        rintro e w2 ⟨rfl, rfl⟩
        go_wp2_with fail
        go_at_call 20
        refine (lawAll_is w1 _ _ pc QC.out).mono ?_
        rintro e w2 ⟨x, rfl, A2, n2, c2, rfl, hn2, ho2, hB2⟩
        have hz2 := hB2.size
        have B2 := Lib.hid (B1.out.trans (hB2.mono (by omega)))
        have R2 := Lib.hid (VRd.of_own ho2)
        have N2 := Lib.hid hn2
        have hn2b : n2 ≤ 2000 := by rw [hn2]; exact QC.out.len
        clear hB2 ho2 hn2 B1
        go_wp2_with fail
        go_at_call 20
        refine (lawAll_is w2 _ _ ps (T.out.below B2.out)).mono ?_
        rintro e w3 ⟨x, rfl, A3, n3, c3, rfl, hn3, ho3, hB3⟩
        have hz3 := hB3.size
        have B3 := Lib.hid (B2.out.trans (hB3.mono (by omega)))
        have R3 := Lib.hid (VRd.of_own ho3)
        have S2 := Lib.hid (R2.out.below hB3)
        have N3 := Lib.hid hn3
        have hn3b : n3 ≤ 2000 := by rw [hn3]; exact T.out.len
        clear hB3 ho3 hn3 B2 R2
        go_wp2_with fail
        go_at_call 19
        refine (same12_b A2 A3 c2 c3 n2 n3 (texts pc) (texts ps) w3 true N2.out N3.out (by omega) (by omega) (by rw [HX.out]; simp) S2.out.srd R3.out.srd).mono ?_
        rintro e w4 ⟨rfl, hB4⟩
        have hz4 := hB4.size
        have B4 := Lib.hid (B3.out.trans (hB4.mono (by omega)))
        clear hB4 B3 R3 S2 N2 N3 HX QC
        by_cases hkm : k = m
        · subst hkm
          go_wp2_with fail
          go_at_call 16
          refine (does_is w4).mono ?_
          rintro e w5 ⟨rfl, hB5⟩
          have B5 := Lib.hid (HB.out.trans ((B4.out.trans (hB5.mono (by omega))).mono hz))
          clear hB5 B4
          go_wp2
          go_ret
          exact ⟨rfl, B5.out⟩
        · have hkm2 : k < m := by omega
          have hkm3 : ((k : Int) == (m : Int)) = false := by rw [beq_eq_false_iff_ne]; omega
          obtain ⟨t, ht⟩ : ∃ t, ts[k]? = some t := ⟨_, List.getElem?_eq_getElem (by rw [← HM.out]; exact hkm2)⟩
          have HC4 := Lib.hid ((HC.out.below HB.out).below (B4.out.mono (Nat.le_refl _)))
          have HOK := Lib.hid (HC4.out.each t (List.mem_of_getElem? ht))
          obtain ⟨bt, ot, hBt, ct0, ct1, ct2⟩ := HC4.out.at ht
          have hfew : t.ins.length ≤ 2100 := (HF.out t (List.mem_of_getElem? ht)).1
          have T4 := Lib.hid (T.out.below B4.out)
          subst hBt
          have hbl : bt < w4.heap.size := World.block_lt_of_cell? _ _ ct0
          have M4 : More w4.heap.size w4 w4 := Below.refl _ _
          have M4' : More w4.heap.size w4 w4.drew := below_drew (Below.refl _ _)
          have SK : Hid (∀ W, More w4.heap.size w4 W → W.cell? ⟨bt, ot + k * 3, none⟩ = some (.int .i64 t.a) ∧ W.cell? ⟨bt, ot + k * 3 + 1, none⟩ = some (.int .i64 t.d) ∧ W.cell? ⟨bt, ot + k * 3 + 2, none⟩ = some (.slice t.A t.ins.length t.c) ∧ More w4.heap.size w4 W) := Lib.hid (fun W hW =>
            ⟨(Below.cell hW.to (p := ⟨bt, ot + k * 3, none⟩) hbl).trans ct0, (Below.cell hW.to (p := ⟨bt, ot + k * 3 + 1, none⟩) hbl).trans ct1, (Below.cell hW.to (p := ⟨bt, ot + k * 3 + 2, none⟩) hbl).trans ct2, hW⟩)
          have S4 := SK.out _ M4
          have S4' := SK.out _ M4'
          by_cases hE : splE (texts ps).length t.a t.d t.ins = 0
          · have K := Lib.hid (splice_good w4 _ ps t _ HOK.out (by omega) T4.out hE)
            clear hE hcnt ht
            go_wp2_with fail
            go_region_held3 (fun W => W.cell? ⟨bt, ot + k * 3, none⟩ = some (.int .i64 t.a) ∧ W.cell? ⟨bt, ot + k * 3 + 1, none⟩ = some (.int .i64 t.d) ∧ W.cell? ⟨bt, ot + k * 3 + 2, none⟩ = some (.slice t.A t.ins.length t.c) ∧ More w4.heap.size w4 W) (first | assumption | exact ⟨by assumption, by assumption, by assumption, by assumption⟩)
              ((go_at_call 17; refine (K.out _ (held4 (by assumption))).mono ?_; rintro e w5 ⟨b5, p5, rfl, hT5, hx5, hp5, M5⟩; have S5 := SK.out w5 M5))
            have hz5 := M5.to.size
            have B5 := Lib.hid (HB.out.trans ((B4.out.trans (M5.to.mono (by omega))).mono hz))
            have T5 := Lib.hid hT5
            obtain ⟨q, hq⟩ : ∃ q : Int, ((p5.length : Nat) : Int) = q := ⟨_, rfl⟩
            have hq0 : 0 ≤ q := by omega
            have hq1 : q ≤ ((ps.length : Nat) : Int) + 2 := by have h1 := hp5.out; omega
            rw [HP.out] at hq1
            have CQ5 := Lib.hid (pieces_is w5 _ _ p5 hT5)
            rw [hq] at CQ5
            clear hq S5 M5 hT5 hp5 hx5 S4 S4' M4 M4' SK K ct0 ct1 ct2 CP CL
            go_wp2_with fail
            go_at_call 28
            refine CQ5.out.mono ?_
            rintro e w6 ⟨rfl, rfl⟩
            go_wp2
            go_roundg (m - (k + 1))
            case measure => omega
            case rel => exact ⟨k + 1, b5, p5, by omega, by omega, by go_num, rfl, T5, B5.out⟩
          · obtain ⟨e5, he5⟩ : ∃ e5, splE (texts ps).length t.a t.d t.ins = e5 := ⟨_, rfl⟩
            rw [he5] at hE
            have K := Lib.hid (splice_bad w4 _ ps t _ HOK.out (by omega) T4.out e5 he5 hE)
            have hEb : (e5 == 0) = false := by rw [beq_eq_false_iff_ne]; exact hE
            clear hE he5 hcnt ht
            go_wp2_with fail
            go_region_held3 (fun W => W.cell? ⟨bt, ot + k * 3, none⟩ = some (.int .i64 t.a) ∧ W.cell? ⟨bt, ot + k * 3 + 1, none⟩ = some (.int .i64 t.d) ∧ W.cell? ⟨bt, ot + k * 3 + 2, none⟩ = some (.slice t.A t.ins.length t.c) ∧ More w4.heap.size w4 W) (first | assumption | exact ⟨by assumption, by assumption, by assumption, by assumption⟩)
              ((go_at_call 17; refine (K.out _ (held4 (by assumption))).mono ?_; rintro e w5 ⟨rfl, M5⟩; have S5 := SK.out w5 M5))
            have hz5 := M5.to.size
            have B5 := Lib.hid (HB.out.trans ((B4.out.trans (M5.to.mono (by omega))).mono hz))
            have T5 := Lib.hid (T4.out.below M5.to)
            clear S5 M5 S4 S4' M4 M4' SK K ct0 ct1 ct2 CP CL
            go_wp2
            go_roundg (m - (k + 1))
            case measure => omega
            case rel => exact ⟨k + 1, b, ps, by omega, by omega, by go_num, rfl, T5, B5.out⟩
  · go_wp2_with fail
    go_at_call 13
    refine (new_no w A n c zs HI.out.lst.len (by omega) hf HI.out.lst.srd).mono ?_
    rintro e w1 ⟨rfl, hB1⟩
    clear hf
    go_wp2_with fail
    go_at_call 16
    refine (does_is w1).mono ?_
    rintro e w2 ⟨rfl, hB2⟩
    have hz := hB1.size
    go_wp2
    go_ret
    exact ⟨rfl, hB1.trans (hB2.mono hz)⟩
end Go.Proofs.Ytpopnplncgpfkaa.pce
