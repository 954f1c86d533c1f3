/- PiecesPlay, walked. -/
import Derived.Test.YtpopnplncgpfkaaPceLawAsk
namespace Go.Proofs.Ytpopnplncgpfkaa.pce
open Go.RowKit Go.Lib
set_option linter.unusedVariables false
set_option linter.unusedSimpArgs false
set_option linter.unnecessarySimpa false
set_option linter.unusedSectionVars false

/-- Of what lay there nothing has turned but in block G. -/
structure But (G : Nat) (w w' : World) : Prop where
  os : w'.os = w.os
  tape : w'.tape = w.tape
  output : w'.output = w.output
  size : w.heap.size ≤ w'.heap.size
  block : ∀ k, k < w.heap.size → k ≠ G → w'.heap[k]? = w.heap[k]?
section
variable {G n : Nat} {a w w' : World} {F : Nat → Prop} {v : Value} {ps : List Pc} {A : Option Addr} {m c : Nat} {zs : List ByteArray}
theorem But.refl (G : Nat) (w : World) : But G w w := ⟨rfl, rfl, rfl, Nat.le_refl _, fun _ _ _ => rfl⟩
theorem But.setCell (h : But G a w) (i : Nat) (u : Value) : But G a (w.setCell ⟨G, i, none⟩ u) :=
  ⟨h.os, h.tape, h.output, by simpa using h.size, fun k hk hn => (Below.heap_setCell w ⟨G, i, none⟩ u k hn).trans (h.block k hk hn)⟩
theorem But.below (h : But G w w') (h1 : n ≤ w.heap.size) (h2 : n ≤ G) : Below n w w' := ⟨h.os, h.tape, h.output, h.size, fun k hk => h.block k (by omega) (by omega)⟩
theorem Tab.but (h : Tab w F v ps) (hB : But G w w') (hF : ∀ b, F b → b < w.heap.size → b ≠ G) : Tab w' F v ps := h.keep (fun b hb hl => hB.block b hl (hF b hb hl)) hB.size
theorem Lst.but (h : Lst w F A m c zs) (hB : But G w w') (hF : ∀ b, F b → b < w.heap.size → b ≠ G) : Lst w' F A m c zs := h.keep (fun b hb hl => hB.block b hl (hF b hb hl)) hB.size
end

theorem tot_append (a b : List ByteArray) : tot (a ++ b) = tot a + tot b := by simp [tot]
theorem tot_spl (L : List ByteArray) (a d : Nat) (ins : List ByteArray) : tot (spl L a d ins) ≤ tot L + tot ins := by
  unfold spl
  rw [tot_append, tot_append]
  have h1 : tot (L.take a) + tot (L.drop a) = tot L := by rw [← tot_append, List.take_append_drop]
  have h2 : tot ((L.drop a).take d) + tot (L.drop (a + d)) = tot (L.drop a) := by
    rw [← List.drop_drop, ← tot_append, List.take_append_drop]
  omega

/-- A splice of lines that stand anywhere, refused. -/
theorem play_bad (w0 : World) (v : Value) (ps : List Pc) (h : Tb w0 v ps) (a d : Int) (ha1 : -9223372036854775808 ≤ a) (ha2 : a ≤ 9223372036854775807) (hd1 : -9223372036854775808 ≤ d) (hd2 : d ≤ 9223372036854775807) (A : Option Addr) (n c : Nat) (ins : List ByteArray) (hi : Ls w0 A n c ins) (hl : n ≤ 100000) (k : Int) (hk : splE (texts ps).length a d ins = k) (hk0 : ¬ k = 0) (W : World) (hW : More w0.heap.size w0 W) :
    Calls Try.prog 17 #[v, .int .i64 a, .int .i64 d, .slice A n c] W fun e w' => e = .returned (.tuple #[.pointer none, .int .i64 k]) ∧ More w0.heap.size w0 w' := by
  subst hk
  refine (splice_is W _ v ps a d A n c ins ha1 ha2 hd1 hd2 hi.len hl hi.nil (hi.below hW.to).srd (h.below hW.to)).mono ?_
  rintro e w' ⟨hB, ⟨h0, rfl⟩ | ⟨h0, _⟩⟩
  · exact ⟨rfl, hW.to.trans (hB.mono hW.to.size)⟩
  · exact absurd h0 hk0
/-- One that is done: of which blocks the new table is. -/
theorem play_good (w0 : World) (F : Nat → Prop) (v : Value) (ps : List Pc) (h : Tab w0 F v ps) (a d : Int) (ha1 : -9223372036854775808 ≤ a) (ha2 : a ≤ 9223372036854775807) (hd1 : -9223372036854775808 ≤ d) (hd2 : d ≤ 9223372036854775807) (A : Option Addr) (n c : Nat) (ins : List ByteArray) (hi : Ls w0 A n c ins) (hl : n ≤ 100000) (hk : splE (texts ps).length a d ins = 0) (W : World) (hW : More w0.heap.size w0 W) :
    Calls Try.prog 17 #[v, .int .i64 a, .int .i64 d, .slice A n c] W fun e w' => ∃ b ps', e = .returned (.tuple #[.pointer (some ⟨b, 0, none⟩), .int .i64 0]) ∧
      Tab w' (fun b => F b ∨ w0.heap.size ≤ b) (.pointer (some ⟨b, 0, none⟩)) ps' ∧ Hid (texts ps' = spl (texts ps) a.toNat d.toNat ins) ∧ More w0.heap.size w0 w' := by
  have hz := hW.to.size
  refine (splice_is W _ v ps a d A n c ins ha1 ha2 hd1 hd2 hi.len hl hi.nil (hi.below hW.to).srd (h.below hW.to)).mono ?_
  rintro e w' ⟨hB, ⟨h0, _⟩ | ⟨h0, v', ps', rfl, hT, hx, _⟩⟩
  · exact absurd hk h0
  · obtain ⟨b, rfl⟩ := hT.ptr
    exact ⟨b, ps', rfl, hT.mono (fun b hb _ => hb.imp id (fun hb => by omega)), hx, hW.to.trans (hB.mono hz)⟩
/-- The document's Splice, done: of which blocks the new list is. -/
theorem ref_good' (w0 : World) (A : Option Addr) (n c : Nat) (L : List ByteArray) (h : Ls w0 A n c L) (hl : L.length ≤ 2000) (t : Ct) (F : Nat → Prop) (ht : CtOk w0 F t) (hm : t.ins.length ≤ 10000) (hk : splE L.length t.a t.d t.ins = 0) (W : World) (hW : More w0.heap.size w0 W) :
    Calls Try.prog 18 #[.slice A n c, .int .i64 t.a, .int .i64 t.d, .slice t.A t.ins.length t.c] W fun e w' => ∃ A' n' c', e = .returned (.tuple #[.slice A' n' c', .int .i64 0]) ∧ Lst w' (w0.heap.size ≤ ·) A' n' c' (spl L t.a.toNat t.d.toNat t.ins) ∧ More w0.heap.size w0 w' := by
  refine (ref_good w0 A n c L h hl t F ht hm hk W hW).mono ?_
  rintro e w' ⟨A', n', c', rfl, hL, hM⟩
  have hz := hW.to.size
  exact ⟨A', n', c', rfl, hL.mono (fun b hb _ => by omega), hM⟩
theorem held3 {P Q : Prop} {n : Nat} {wb W : World} (h : P ∧ Q ∧ More n wb W) : More n wb W := h.2.2
/-- A twin, as a list. -/
theorem twin_lst {w : World} {base g cap : Nat} {zs : List ByteArray} (h : w.ownsRow base 9 1 (.slice (some ⟨g, 0, none⟩) (zs.length + 1) cap) (zs.length + 1) ((zs ++ [star]).map Value.string)) : Ls w (some ⟨g, 0, none⟩) zs.length cap zs := by
  have hc := (own_cap h).1
  have hS : SRd w w.heap.size (some ⟨g, 0, none⟩) zs := SRd.of_row (zs := zs) (more := [star]) (m := zs.length + 1) (by simp) h
  exact ⟨rfl, by omega, (fun h => (by cases h)), (VRd.of_srd hS (Nat.le_refl _)).mono fun _ _ _ => trivial⟩

set_option maxHeartbeats 4000000 in
set_option maxRecDepth 100000 in
theorem law3 (A : Option Addr) (n c : Nat) (zs : List ByteArray) (Bo : Option Addr) (m c' : Nat) (ts : List Ct) (w : World) (h : InL w A n c zs) (hm : m = ts.length) (hmb : m ≤ maxLen) (hC : Cuts w (· < w.heap.size) Bo ts) :
    Calls Try.prog 3 #[.slice A n c, .slice Bo m c'] w fun e w' => e = .returned (.bool true) ∧ Below w.heap.size w w' := by
  have C1 := Lib.hid (great_in h 2100 20000 (by omega) (by omega))
  have C2 := Lib.hid (much_is w _ Bo m c' ts hm hmb hC)
  have HI := Lib.hid h
  have HM := Lib.hid hm
  have HC := Lib.hid hC
  clear h hm hmb hC
  go_enter Try.func3, Try.ntmps3
  go_wp2_with fail
  go_at_call 10
  refine C1.out.mono ?_
  rintro e w' ⟨(rfl | ⟨rfl, g1, g2⟩), rfl⟩
  · go_wp2
    go_ret
    exact ⟨rfl, Below.refl _ _⟩
  have hn3 : n ≤ 2100 := by rw [HI.out.lst.len]; exact g1
  have HTOT := Lib.hid g2
  clear C1 g1 g2
  go_wp2_with fail
  go_at_call 11
  refine C2.out.mono ?_
  rintro e w' ⟨(rfl | ⟨rfl, g1, g2⟩), rfl⟩
  · go_wp2
    go_ret
    exact ⟨rfl, Below.refl _ _⟩
  have hm6 : m ≤ 60 := by rw [HM.out]; exact g1
  have HF := Lib.hid g2
  clear C2 g1 g2
  go_wp2_with fail
  go_at_call 12
  refine (twin15 A c n zs w HI.out.lst.len HI.out.lst.nil (by omega) HI.out.lst.srd).mono ?_
  rintro e w1 ⟨v, rfl, ht⟩
  obtain ⟨g, cap, rfl, ho, hB1⟩ := ht
  have hz1 := hB1.size
  have HG := Lib.hid (ho.lt g rfl)
  have HT := Lib.hid (twin_lst ho)
  have HO1 := Lib.hid ho
  have HB1 := Lib.hid hB1
  rw [← HI.out.lst.len] at HT HO1
  rw [← HI.out.lst.len]
  clear ho hB1
  by_cases hf : Fine zs
  · go_wp2_with fail
    go_at_call 13
    refine (new_yes w1 (some ⟨g, 0, none⟩) n cap zs HI.out.lst.len (by omega) (fun h => by cases h) hf HT.out.srd).mono ?_
    rintro e w2 ⟨v, ps, rfl, hT, hx, hB2⟩
    obtain ⟨b1, rfl⟩ := hT.ptr
    have hz2 := hB2.size
    have T2 := Lib.hid hT
    have X2 := Lib.hid hx
    have HB2 := Lib.hid (HB1.out.trans (hB2.mono hz1))
    have HO2 := Lib.hid (own_below HO1.out hB2)
    have hkz := fine_chk.2 hf
    clear hT hx hf hB2 HO1 HT HB1
    go_wp2_with fail
    go_at_call 14
    refine (left20 A c g cap n _ zs w2 HI.out.lst.len (by omega) HO2.out (HI.out.lst.below HB2.out).srd).mono ?_
    rintro e w3 ⟨rfl, hB3⟩
    have hz3 := hB3.size
    have HB3 := Lib.hid (HB2.out.trans (hB3.mono (by omega)))
    have T3 := Lib.hid (T2.out.below hB3)
    have HO3 := Lib.hid (own_below HO2.out hB3)
    have R3 := Lib.hid (refChk A c n zs w3 0 hkz HI.out.lst.len (by omega) HI.out.size (HI.out.lst.below HB3.out).srd)
    clear hB3 T2 HO2 HB2 hkz
    go_wp2_with fail
    go_at_call 15
    refine R3.out.mono ?_
    rintro e w4 ⟨rfl, rfl⟩
    have HO4 := HO3.out
    clear R3 HO3
    go_wp2_with fail
    go_loopg [8] n (fun gg s8 wr => ∃ (j : Nat) (us : List Value), j ≤ n ∧ n - j ≤ gg ∧ s8 = .int .i64 j ∧ wr.ownsRow w.heap.size 9 1 (.slice (some ⟨g, 0, none⟩) (n + 1) cap) (n + 1) us ∧ But g w3 wr)
    case atStart => exact ⟨0, _, Nat.zero_le _, by omega, rfl, HO4, But.refl _ _⟩
    case round =>
      obtain ⟨j, us, hj, hg, rfl, ho1, hBr⟩ := hrel
      clear HO4
      by_cases hjl : j < n
      · have hcp := (own_cap ho1).1
        have hus : j < us.length := by rw [ho1.1]; omega
        have hcell := ho1.cellAt j (by omega)
        rw [List.getElem?_eq_getElem hus] at hcell
        have hfr := ho1.frozenAt j
        have hst := Lib.hid (ho1.stored j (.string ⟨#[63]⟩)).1
        have hB' := Lib.hid (hBr.setCell j (.string ⟨#[63]⟩))
        clear ho1 hBr
        go_wp2
        go_roundg (n - (j + 1))
        case measure => omega
        case rel => exact ⟨j + 1, _, by omega, by omega, by go_num, hst.out, hB'.out⟩
      · have hjn : j = n := by omega
        subst hjn
        have hzr := hBr.size
        have TL := Lib.hid ((T3.out.but hBr (fun b hb _ => by have := HG.out.2; omega)).any)
        have LL := Lib.hid ((HI.out.lst.below HB3.out).but hBr (fun b hb _ => by have := HG.out.1; omega)).any
        rw [← X2.out] at LL
        have BL := Lib.hid (HB3.out.trans (hBr.below (by omega) HG.out.1))
        have TOT : Hid (tot (texts ps) ≤ 20000 + 5000 * 0) := Lib.hid (by rw [X2.out]; exact HTOT.out)
        clear ho1 hBr T3 HB3
        go_wp2
        go_loopg [6, 7, 9] m (fun gg s6 s7 s9 wr => ∃ (k b : Nat) (ps : List Pc) (Aw : Option Addr) (nw cw : Nat), k ≤ m ∧ m - k ≤ gg ∧ s9 = .int .i64 k ∧ s6 = .pointer (some ⟨b, 0, none⟩) ∧ s7 = .slice Aw nw cw ∧ Hid (Tb wr (.pointer (some ⟨b, 0, none⟩)) ps) ∧ Hid (Ls wr Aw nw cw (texts ps)) ∧ Hid (tot (texts ps) ≤ 20000 + 5000 * k) ∧ Hid (Below w.heap.size w wr))
        case atStart => exact ⟨0, b1, ps, A, j, c, Nat.zero_le _, by omega, rfl, rfl, rfl, TL, LL, TOT, BL⟩
        case round =>
          obtain ⟨k, b, ps, Aw, nw, cw, hk, hg, rfl, rfl, rfl, T, HL, HTO, HB⟩ := hrel
          have hz := HB.out.size
          have hL2 : Hid ((texts ps).length ≤ 2000) := Lib.hid T.out.len
          have hnw : nw ≤ 2000 := by rw [HL.out.len]; exact hL2.out
          clear TL LL TOT BL
          by_cases hlt : k < m
          · obtain ⟨t, ht⟩ : ∃ t, ts[k]? = some t := ⟨_, List.getElem?_eq_getElem (by rw [← HM.out]; exact hlt)⟩
            have HC4 := Lib.hid (HC.out.below HB.out)
            have HOK := Lib.hid (HC4.out.each t (List.mem_of_getElem? ht))
            obtain ⟨bt, ot, hBt, ct0, ct1, ct2⟩ := HC4.out.at ht
            have hfew : t.ins.length ≤ 2100 := (HF.out t (List.mem_of_getElem? ht)).1
            have HTI := Lib.hid (HF.out t (List.mem_of_getElem? ht)).2
            have a1 := HOK.out.a1
            have a2 := HOK.out.a2
            have a3 := HOK.out.d1
            have a4 := HOK.out.d2
            have HAA := Lib.hid (And.intro a1 (And.intro a2 (And.intro a3 a4)))
            subst hBt
            have hbl : bt < wr.heap.size := World.block_lt_of_cell? _ _ ct0
            clear ht a1 a2 a3 a4
            go_wp2_with fail
            go_at_call 12
            refine (twin15 t.A t.c _ t.ins wr rfl HOK.out.lst.nil (by omega) HOK.out.lst.srd).mono ?_
            rintro e wa ⟨v, rfl, hti⟩
            obtain ⟨gi, capi, rfl, hoi, hBa⟩ := hti
            have hza := hBa.size
            have HGi := Lib.hid (hoi.lt gi rfl)
            have HTi := Lib.hid (twin_lst hoi)
            have HOa := Lib.hid hoi
            have Ba := Lib.hid (HB.out.trans (hBa.mono hz))
            have Ta := Lib.hid ((T.out.mono (F' := (· < wr.heap.size)) (fun _ _ hb => hb)).below hBa)
            have La := Lib.hid ((HL.out.mono (F' := (· < wr.heap.size)) (fun _ _ hb => hb)).below hBa)
            have OKa := Lib.hid (HOK.out.keep (fun b _ hb => hBa.block b hb) hza)
            have e0 := (Below.cell hBa (p := ⟨bt, ot + k * 3, none⟩) hbl).trans ct0
            have e1 := (Below.cell hBa (p := ⟨bt, ot + k * 3 + 1, none⟩) hbl).trans ct1
            have e2 := (Below.cell hBa (p := ⟨bt, ot + k * 3 + 2, none⟩) hbl).trans ct2
            have hbla : bt < wa.heap.size := by omega
            have N1 : More wa.heap.size wa wa := Below.refl _ _
            have N1' : More wa.heap.size wa wa.drew := below_drew (Below.refl _ _)
            have SK : Hid (∀ W, More wa.heap.size wa W → W.cell? ⟨bt, ot + k * 3, none⟩ = some (.int .i64 t.a) ∧ W.cell? ⟨bt, ot + k * 3 + 1, none⟩ = some (.int .i64 t.d) ∧ More wa.heap.size wa W) := Lib.hid (fun W hW =>
              ⟨(Below.cell hW.to (p := ⟨bt, ot + k * 3, none⟩) hbla).trans e0, (Below.cell hW.to (p := ⟨bt, ot + k * 3 + 1, none⟩) hbla).trans e1, hW⟩)
            have S1 := SK.out _ N1
            have S1' := SK.out _ N1'
            clear hoi hBa ct0 ct1 ct2 T HL HOK
            have hbl5 : Hid (∀ W, More wa.heap.size wa W → W.cell? ⟨bt, ot + k * 3 + 2, none⟩ = some (.slice t.A t.ins.length t.c)) := Lib.hid (fun W hW => (Below.cell hW.to (p := ⟨bt, ot + k * 3 + 2, none⟩) hbla).trans e2)
            clear e2
            by_cases hE : splE (texts ps).length t.a t.d t.ins = 0
            · have K := Lib.hid (play_good wa _ _ ps Ta.out t.a t.d HAA.out.1 HAA.out.2.1 HAA.out.2.2.1 HAA.out.2.2.2 _ _ capi t.ins HTi.out (by omega) hE)
              go_wp2_with fail
              go_region_held3 (fun W => W.cell? ⟨bt, ot + k * 3, none⟩ = some (.int .i64 t.a) ∧ W.cell? ⟨bt, ot + k * 3 + 1, none⟩ = some (.int .i64 t.d) ∧ More wa.heap.size wa W) (first | assumption | exact ⟨by assumption, by assumption, by assumption⟩)
                ((go_at_call 17; refine (K.out _ (held3 (by assumption))).mono ?_; rintro e w5 ⟨b5, p5, rfl, hT5, hx5, M5⟩; have S5 := SK.out w5 M5))
              have T5 := Lib.hid hT5
              have X5 := hx5
              have TO5 := Lib.hid (Ta.out.below M5.to)
              have hz5 := M5.to.size
              have f0 := S5.1
              have f1 := S5.2.1
              have f2 := hbl5.out w5 M5
              have hbl6 : bt < w5.heap.size := by omega
              have B5 := Lib.hid (Ba.out.trans (M5.to.mono (by omega)))
              have L5 := Lib.hid (La.out.below M5.to)
              have OK5 := Lib.hid (OKa.out.keep (fun b _ hb => M5.to.block b hb) hz5)
              have O5 := Lib.hid (own_below HOa.out M5.to)
              have N5 : More w5.heap.size w5 w5 := Below.refl _ _
              have N5' : More w5.heap.size w5 w5.drew := below_drew (Below.refl _ _)
              have SJ : Hid (∀ W, More w5.heap.size w5 W → W.cell? ⟨bt, ot + k * 3, none⟩ = some (.int .i64 t.a) ∧ W.cell? ⟨bt, ot + k * 3 + 1, none⟩ = some (.int .i64 t.d) ∧ W.cell? ⟨bt, ot + k * 3 + 2, none⟩ = some (.slice t.A t.ins.length t.c) ∧ More w5.heap.size w5 W) := Lib.hid (fun W hW =>
                ⟨(Below.cell hW.to (p := ⟨bt, ot + k * 3, none⟩) hbl6).trans f0, (Below.cell hW.to (p := ⟨bt, ot + k * 3 + 1, none⟩) hbl6).trans f1, (Below.cell hW.to (p := ⟨bt, ot + k * 3 + 2, none⟩) hbl6).trans f2, hW⟩)
              have J5 := SJ.out _ N5
              have J5' := SJ.out _ N5'
              have R := Lib.hid (ref_good' w5 Aw nw cw (texts ps) L5.out.any hL2.out t _ OK5.out (by omega) hE)
              clear hE hT5 hx5 K S1 S1' N1 N1' SK e0 e1
              go_wp2_with fail
              go_region_held3 (fun W => W.cell? ⟨bt, ot + k * 3, none⟩ = some (.int .i64 t.a) ∧ W.cell? ⟨bt, ot + k * 3 + 1, none⟩ = some (.int .i64 t.d) ∧ W.cell? ⟨bt, ot + k * 3 + 2, none⟩ = some (.slice t.A t.ins.length t.c) ∧ More w5.heap.size w5 W) (first | assumption | exact ⟨by assumption, by assumption, by assumption, by assumption⟩)
                ((go_at_call 18; refine (R.out _ (held4 (by assumption))).mono ?_; rintro e w6 ⟨A6, n6, c6, rfl, hL6, M6⟩; have S6 := SJ.out w6 M6))
              have hz6 := M6.to.size
              have B6 := Lib.hid (B5.out.trans (M6.to.mono (by omega)))
              have TO6 := Lib.hid (TO5.out.below M6.to)
              have LO6 := Lib.hid (L5.out.below M6.to)
              have OK6 := Lib.hid (OK5.out.keep (fun b _ hb => M6.to.block b hb) hz6)
              have O6 := Lib.hid (own_below O5.out M6.to)
              have h2 := S6.2.2.1
              have TN6 := Lib.hid (T5.out.below M6.to)
              have LN6 := Lib.hid hL6
              clear S6 M6 J5 J5' SJ R L5 OK5 O5 B5 S5 M5 N5 N5' f0 f1 f2 hL6 T5
              go_wp2_with fail
              go_at_call 14
              refine (left20 t.A t.c gi capi t.ins.length _ t.ins w6 rfl (by omega) O6.out OK6.out.lst.srd).mono ?_
              rintro e w7 ⟨rfl, hB7⟩
              have hz7 := hB7.size
              have B7 := Lib.hid (B6.out.trans (hB7.mono (by omega)))
              have TO7 := Lib.hid (TO6.out.below hB7)
              have LO7 := Lib.hid (LO6.out.below hB7)
              have O7 := Lib.hid (own_below O6.out hB7)
              have TN7 := Lib.hid (TN6.out.below hB7)
              have LN7 := Lib.hid (LN6.out.below hB7)
              clear hB7 TO6 LO6 O6 B6 OK6 h2 TN6 LN6
              go_wp2_with fail
              go_at_call 20
              refine (lawAll_is _ _ _ ps TO7.out).mono ?_
              rintro e w8 ⟨x, rfl, hR8⟩
              obtain ⟨A8, n8, c8, rfl, hL8, hB8⟩ := hR8.lst
              have hz8 := hB8.size
              have TO8 := Lib.hid (TO7.out.below hB8)
              have LO8 := Lib.hid (LO7.out.below hB8)
              have O8 := Lib.hid (own_below O7.out hB8)
              have B8 := Lib.hid (B7.out.trans (hB8.mono (by omega)))
              have M8 := Lib.hid hL8
              have hn8b : n8 ≤ 2000 := by rw [hL8.len]; exact hL2.out
              have TN8 := Lib.hid (TN7.out.below hB8)
              have LN8 := Lib.hid (LN7.out.below hB8)
              clear hB8 hL8 hR8 TO7 LO7 O7 B7 TN7 LN7
              go_wp2_with fail
              go_at_call 19
              refine (same12_b A8 Aw c8 cw n8 nw _ _ w8 true M8.out.len LO8.out.len (by omega) (by omega) (by simp) M8.out.srd LO8.out.srd).mono ?_
              rintro e w9 ⟨rfl, hB9⟩
              have hz9 := hB9.size
              have TO9 := Lib.hid (TO8.out.below hB9)
              have LO9 := Lib.hid (LO8.out.below hB9)
              have O9 := own_below O8.out hB9
              have B9 := Lib.hid (B8.out.trans (hB9.mono (by omega)))
              have TN9 := Lib.hid (TN8.out.below hB9)
              have LN9 := Lib.hid (LN8.out.below hB9)
              clear hB9 M8 TO8 LO8 O8 B8 TN8 LN8
              go_wp2_with fail
              go_loopg [15] t.ins.length (fun gg s15 wq => ∃ (j : Nat) (us : List Value), j ≤ t.ins.length ∧ t.ins.length - j ≤ gg ∧ s15 = .int .i64 j ∧ wq.ownsRow wr.heap.size 9 1 (.slice (some ⟨gi, 0, none⟩) (t.ins.length + 1) capi) (t.ins.length + 1) us ∧ But gi w9 wq)
              case atStart => exact ⟨0, _, Nat.zero_le _, by omega, rfl, O9, But.refl _ _⟩
              case round =>
                obtain ⟨j, us, hj, hgj, rfl, ho1, hBr⟩ := hrel
                clear O9
                by_cases hjl : j < t.ins.length
                · have hcp := (own_cap ho1).1
                  have hus : j < us.length := by rw [ho1.1]; omega
                  have hcell := ho1.cellAt j (by omega)
                  rw [List.getElem?_eq_getElem hus] at hcell
                  have hfr := ho1.frozenAt j
                  have hst := Lib.hid (ho1.stored j (.string ⟨#[63]⟩)).1
                  have hB' := Lib.hid (hBr.setCell j (.string ⟨#[63]⟩))
                  clear ho1 hBr
                  go_wp2
                  go_roundg (t.ins.length - (j + 1))
                  case measure => omega
                  case rel => exact ⟨j + 1, _, by omega, by omega, by go_num, hst.out, hB'.out⟩
                · have hjn : j = t.ins.length := by omega
                  have hzq := hBr.size
                  have gi1 := HGi.out.1
                  have gi2 := HGi.out.2
                  have TF := Lib.hid ((TN9.out.but hBr (fun b hb _ => by rcases hb with hb | hb <;> omega)).any)
                  have LF := Lib.hid ((LN9.out.but hBr (fun b hb _ => by omega)).any)
                  rw [← X5.out] at LF
                  have TOTF : Hid (tot (texts p5) ≤ 20000 + 5000 * (k + 1)) := Lib.hid (by
                    rw [X5.out]
                    have h1 := tot_spl (texts ps) t.a.toNat t.d.toNat t.ins
                    have h2 := HTO.out
                    have h3 := HTI.out
                    omega)
                  have BF := Lib.hid (B9.out.trans (hBr.below (by omega) (by omega)))
                  clear ho1 hBr gi1 gi2
                  go_wp2
                  go_roundg (m - (k + 1))
                  case measure => omega
                  case rel => exact ⟨k + 1, b5, p5, A6, n6, c6, by omega, by omega, by go_num, rfl, rfl, TF, LF, TOTF, BF⟩
            · obtain ⟨e5, he5⟩ : ∃ e5, splE (texts ps).length t.a t.d t.ins = e5 := ⟨_, rfl⟩
              rw [he5] at hE
              have K := Lib.hid (play_bad wa _ ps Ta.out.any t.a t.d HAA.out.1 HAA.out.2.1 HAA.out.2.2.1 HAA.out.2.2.2 _ _ capi t.ins HTi.out (by omega) e5 he5 hE)
              have hEb : (e5 == 0) = false := by rw [beq_eq_false_iff_ne]; exact hE
              have hEn : (e5 != 0) = true := by rw [bne, hEb]; rfl
              have HE5 := Lib.hid (And.intro he5 hE)
              clear he5
              go_wp2_with fail
              go_region_held3 (fun W => W.cell? ⟨bt, ot + k * 3, none⟩ = some (.int .i64 t.a) ∧ W.cell? ⟨bt, ot + k * 3 + 1, none⟩ = some (.int .i64 t.d) ∧ More wa.heap.size wa W) (first | assumption | exact ⟨by assumption, by assumption, by assumption⟩)
                ((go_at_call 17; refine (K.out _ (held3 (by assumption))).mono ?_; rintro e w5 ⟨rfl, M5⟩; have S5 := SK.out w5 M5))
              have TO5 := Lib.hid (Ta.out.below M5.to)
              have hz5 := M5.to.size
              have f0 := S5.1
              have f1 := S5.2.1
              have f2 := hbl5.out w5 M5
              have hbl6 : bt < w5.heap.size := by omega
              have B5 := Lib.hid (Ba.out.trans (M5.to.mono (by omega)))
              have L5 := Lib.hid (La.out.below M5.to)
              have OK5 := Lib.hid (OKa.out.keep (fun b _ hb => M5.to.block b hb) hz5)
              have O5 := Lib.hid (own_below HOa.out M5.to)
              have N5 : More w5.heap.size w5 w5 := Below.refl _ _
              have N5' : More w5.heap.size w5 w5.drew := below_drew (Below.refl _ _)
              have SJ : Hid (∀ W, More w5.heap.size w5 W → W.cell? ⟨bt, ot + k * 3, none⟩ = some (.int .i64 t.a) ∧ W.cell? ⟨bt, ot + k * 3 + 1, none⟩ = some (.int .i64 t.d) ∧ W.cell? ⟨bt, ot + k * 3 + 2, none⟩ = some (.slice t.A t.ins.length t.c) ∧ More w5.heap.size w5 W) := Lib.hid (fun W hW =>
                ⟨(Below.cell hW.to (p := ⟨bt, ot + k * 3, none⟩) hbl6).trans f0, (Below.cell hW.to (p := ⟨bt, ot + k * 3 + 1, none⟩) hbl6).trans f1, (Below.cell hW.to (p := ⟨bt, ot + k * 3 + 2, none⟩) hbl6).trans f2, hW⟩)
              have J5 := SJ.out _ N5
              have J5' := SJ.out _ N5'
              have R := Lib.hid (ref_bad w5 Aw nw cw (texts ps) L5.out.any hL2.out t _ OK5.out (by omega) e5 HE5.out.1 HE5.out.2)
              clear K S1 S1' N1 N1' SK e0 e1
              go_wp2_with fail
              go_region_held3 (fun W => W.cell? ⟨bt, ot + k * 3, none⟩ = some (.int .i64 t.a) ∧ W.cell? ⟨bt, ot + k * 3 + 1, none⟩ = some (.int .i64 t.d) ∧ W.cell? ⟨bt, ot + k * 3 + 2, none⟩ = some (.slice t.A t.ins.length t.c) ∧ More w5.heap.size w5 W) (first | assumption | exact ⟨by assumption, by assumption, by assumption, by assumption⟩)
                ((go_at_call 18; refine (R.out _ (held4 (by assumption))).mono ?_; rintro e w6 ⟨rfl, M6⟩; have S6 := SJ.out w6 M6))
              have hz6 := M6.to.size
              have B6 := Lib.hid (B5.out.trans (M6.to.mono (by omega)))
              have TO6 := Lib.hid (TO5.out.below M6.to)
              have LO6 := Lib.hid (L5.out.below M6.to)
              have OK6 := Lib.hid (OK5.out.keep (fun b _ hb => M6.to.block b hb) hz6)
              have O6 := Lib.hid (own_below O5.out M6.to)
              have h2 := S6.2.2.1
              clear S6 M6 J5 J5' SJ R L5 OK5 O5 B5 S5 M5 N5 N5' f0 f1 f2
              go_wp2_with fail
              go_at_call 14
              refine (left20 t.A t.c gi capi t.ins.length _ t.ins w6 rfl (by omega) O6.out OK6.out.lst.srd).mono ?_
              rintro e w7 ⟨rfl, hB7⟩
              have hz7 := hB7.size
              have B7 := Lib.hid (B6.out.trans (hB7.mono (by omega)))
              have TO7 := Lib.hid (TO6.out.below hB7)
              have LO7 := Lib.hid (LO6.out.below hB7)
              have O7 := Lib.hid (own_below O6.out hB7)
              clear hB7 TO6 LO6 O6 B6 OK6 h2
              go_wp2_with fail
              go_at_call 20
              refine (lawAll_is _ _ _ ps TO7.out).mono ?_
              rintro e w8 ⟨x, rfl, hR8⟩
              obtain ⟨A8, n8, c8, rfl, hL8, hB8⟩ := hR8.lst
              have hz8 := hB8.size
              have TO8 := Lib.hid (TO7.out.below hB8)
              have LO8 := Lib.hid (LO7.out.below hB8)
              have O8 := Lib.hid (own_below O7.out hB8)
              have B8 := Lib.hid (B7.out.trans (hB8.mono (by omega)))
              have M8 := Lib.hid hL8
              have hn8b : n8 ≤ 2000 := by rw [hL8.len]; exact hL2.out
              clear hB8 hL8 hR8 TO7 LO7 O7 B7
              go_wp2_with fail
              go_at_call 19
              refine (same12_b A8 Aw c8 cw n8 nw _ _ w8 true M8.out.len LO8.out.len (by omega) (by omega) (by simp) M8.out.srd LO8.out.srd).mono ?_
              rintro e w9 ⟨rfl, hB9⟩
              have hz9 := hB9.size
              have TO9 := Lib.hid (TO8.out.below hB9)
              have LO9 := Lib.hid (LO8.out.below hB9)
              have O9 := own_below O8.out hB9
              have B9 := Lib.hid (B8.out.trans (hB9.mono (by omega)))
              clear hB9 M8 TO8 LO8 O8 B8
              go_wp2_with fail
              go_loopg [15] t.ins.length (fun gg s15 wq => ∃ (j : Nat) (us : List Value), j ≤ t.ins.length ∧ t.ins.length - j ≤ gg ∧ s15 = .int .i64 j ∧ wq.ownsRow wr.heap.size 9 1 (.slice (some ⟨gi, 0, none⟩) (t.ins.length + 1) capi) (t.ins.length + 1) us ∧ But gi w9 wq)
              case atStart => exact ⟨0, _, Nat.zero_le _, by omega, rfl, O9, But.refl _ _⟩
              case round =>
                obtain ⟨j, us, hj, hgj, rfl, ho1, hBr⟩ := hrel
                clear O9
                by_cases hjl : j < t.ins.length
                · have hcp := (own_cap ho1).1
                  have hus : j < us.length := by rw [ho1.1]; omega
                  have hcell := ho1.cellAt j (by omega)
                  rw [List.getElem?_eq_getElem hus] at hcell
                  have hfr := ho1.frozenAt j
                  have hst := Lib.hid (ho1.stored j (.string ⟨#[63]⟩)).1
                  have hB' := Lib.hid (hBr.setCell j (.string ⟨#[63]⟩))
                  clear ho1 hBr
                  go_wp2
                  go_roundg (t.ins.length - (j + 1))
                  case measure => omega
                  case rel => exact ⟨j + 1, _, by omega, by omega, by go_num, hst.out, hB'.out⟩
                · have hjn : j = t.ins.length := by omega
                  have hzq := hBr.size
                  have gi1 := HGi.out.1
                  have gi2 := HGi.out.2
                  have TF := Lib.hid ((TO9.out.but hBr (fun b hb _ => by omega)).any)
                  have LF := Lib.hid ((LO9.out.but hBr (fun b hb _ => by omega)).any)
                  have TOTF : Hid (tot (texts ps) ≤ 20000 + 5000 * (k + 1)) := Lib.hid (by have h2 := HTO.out; omega)
                  have BF := Lib.hid (B9.out.trans (hBr.below (by omega) (by omega)))
                  clear ho1 hBr gi1 gi2
                  go_wp2
                  go_roundg (m - (k + 1))
                  case measure => omega
                  case rel => exact ⟨k + 1, b, ps, Aw, nw, cw, by omega, by omega, by go_num, rfl, rfl, TF, LF, TOTF, BF⟩
          · have hkm : k = m := by omega
            subst hkm
            go_wp2_with fail
            go_at_call 20
            refine (lawAll_is _ _ _ ps T.out).mono ?_
            rintro e w8 ⟨x, rfl, hR8⟩
            obtain ⟨A8, n8, c8, rfl, hL8, hB8⟩ := hR8.lst
            have hz8 := hB8.size
            have T8 := Lib.hid (T.out.below hB8)
            have L8 := Lib.hid (HL.out.below hB8)
            have B8 := Lib.hid (HB.out.trans (hB8.mono hz))
            have M8 := Lib.hid hL8
            have hn8b : n8 ≤ 2000 := by rw [hL8.len]; exact hL2.out
            clear hB8 hL8 hR8
            go_wp2_with fail
            go_at_call 19
            refine (same12_b A8 Aw c8 cw n8 nw _ _ w8 true M8.out.len L8.out.len (by omega) (by omega) (by simp) M8.out.srd L8.out.srd).mono ?_
            rintro e w9 ⟨rfl, hB9⟩
            have hz9 := hB9.size
            have B9 := Lib.hid (B8.out.trans (hB9.mono (by omega)))
            have T9 := Lib.hid (T8.out.below hB9)
            have L9 := Lib.hid (L8.out.below hB9)
            have CL := Lib.hid (len_is w9 _ _ ps T9.out)
            rw [← L9.out.len] at CL
            clear hB9 B8 M8 L8 T8
            go_wp2_with fail
            go_at_call 21
            refine CL.out.mono ?_
            rintro e w10 ⟨rfl, rfl⟩
            have ht2 : tot (texts ps) ≤ 1000000 := by have := HTO.out; omega
            have HT2 := Lib.hid ht2
            clear CL ht2
            go_wp2_with fail
            go_at_call 22
            refine (text_is w9 _ _ ps HT2.out T9.out).mono ?_
            rintro e w11 ⟨rfl, hB11⟩
            have hz11 := hB11.size
            have B11 := Lib.hid (B9.out.trans (hB11.mono (by omega)))
            have L11 := Lib.hid (L9.out.below hB11)
            obtain ⟨J, hJ⟩ : ∃ J, B (joinL (bytesOf (texts ps))) = J := ⟨_, rfl⟩
            rw [hJ]
            have CJ := Lib.hid (refJoin17 Aw cw nw _ (texts ps) w11 L11.out.len (by omega) HT2.out L11.out.srd)
            rw [hJ] at CJ
            clear hB11 B9 T9 L9 hJ
            go_wp2_with fail
            go_at_call 23
            refine CJ.out.mono ?_
            rintro e w12 ⟨rfl, rfl⟩
            go_wp2_with fail
            go_at_call 16
            refine (does_is w11).mono ?_
            rintro e w13 ⟨rfl, hB13⟩
            have B13 := Lib.hid (B11.out.trans (hB13.mono (by omega)))
            clear hB13
            go_wp2
            go_ret
            exact ⟨rfl, B13.out⟩
  · have hk0 : ¬ chk zs = 0 := fun e => hf (fine_chk.1 e)
    have hkb : (chk zs == 0) = false := by rw [beq_eq_false_iff_ne]; exact hk0
    obtain ⟨kk, hkk⟩ : ∃ kk, chk zs = kk := ⟨_, rfl⟩
    have HKK := Lib.hid hkk
    rw [hkk] at hkb hk0
    clear hkk
    go_wp2_with fail
    go_at_call 13
    refine (new_no w1 (some ⟨g, 0, none⟩) n cap zs HI.out.lst.len (by omega) hf HT.out.srd).mono ?_
    rintro e w2 ⟨rfl, hB2⟩
    have hz2 := hB2.size
    have HB2 := Lib.hid (HB1.out.trans (hB2.mono hz1))
    have HO2 := Lib.hid (own_below HO1.out hB2)
    clear hf hB2 HO1 HT HB1
    go_wp2_with fail
    go_at_call 14
    refine (left20 A c g cap n _ zs w2 HI.out.lst.len (by omega) HO2.out (HI.out.lst.below HB2.out).srd).mono ?_
    rintro e w3 ⟨rfl, hB3⟩
    have hz3 := hB3.size
    have HB3 := Lib.hid (HB2.out.trans (hB3.mono (by omega)))
    have R3 := Lib.hid (refChk A c n zs w3 kk HKK.out HI.out.lst.len (by omega) HI.out.size (HI.out.lst.below HB3.out).srd)
    clear hB3 HO2 HB2
    go_wp2_with fail
    go_at_call 15
    refine R3.out.mono ?_
    rintro e w4 ⟨rfl, rfl⟩
    clear R3
    go_wp2_with fail
    go_at_call 16
    refine (does_is w3).mono ?_
    rintro e w4 ⟨rfl, hB4⟩
    have B4 := Lib.hid (HB3.out.trans (hB4.mono (by omega)))
    clear hB4
    go_wp2
    go_ret
    exact ⟨rfl, B4.out⟩
end Go.Proofs.Ytpopnplncgpfkaa.pce
