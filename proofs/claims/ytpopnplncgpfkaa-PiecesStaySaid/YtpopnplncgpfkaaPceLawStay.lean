/- PiecesStay, walked. -/
import Derived.Test.YtpopnplncgpfkaaPceStay
import Derived.Deep.DeepCutAuto
import Derived.Deep.CutRange
namespace Go.Proofs.Ytpopnplncgpfkaa.pce
open Go.RowKit Go.Lib
set_option linter.unusedVariables false
set_option linter.unusedSimpArgs false
set_option linter.unnecessarySimpa false
set_option linter.unusedSectionVars false

theorem Rows2.alter {w : World} {base gm cm gh ch : Nat} {F : Nat → Prop} {is is' js : List It} (h : Rows2 w base F gm cm gh ch is js) (he : is.map It.pt = is'.map It.pt) : Rows2 w base F gm cm gh ch is' js := by
  have hl : is.length = is'.length := by have := congrArg List.length he; simpa using this
  exact ⟨by have := h.made; rw [he, hl] at this; exact this, h.had, h.mF, h.hF, h.ne, h.lt⟩
theorem held5 {P Q R S : Prop} {n : Nat} {wb W : World} (h : P ∧ Q ∧ R ∧ S ∧ More n wb W) : More n wb W := h.2.2.2.2
theorem last_item (its : List It) (i : It) : (its ++ [i])[its.length]? = some i := by simp

set_option maxHeartbeats 4000000 in
set_option maxRecDepth 100000 in
theorem law6 (A : Option Addr) (n c : Nat) (zs : List ByteArray) (Bo : Option Addr) (m c' : Nat) (ts : List Ct) (D : Option Addr) (q cD : Nat) (us : List UInt8) (w : World) (h : InL w A n c zs) (hm : m = ts.length) (hmb : m ≤ maxLen) (hC : Cuts w (· < w.heap.size) Bo ts)
    (hq : q = us.length) (hqb : q ≤ maxLen) (hU : VRd w (· < w.heap.size) D (us.map fun c => Value.int .u8 c.toNat)) :
    Calls Try.prog 6 #[.slice A n c, .slice Bo m c', .slice D q cD] w fun e w' => e = .returned (.bool true) ∧ Below w.heap.size w w' := by
  obtain ⟨i0, hi, hz0, hz1', hz2'⟩ := info_parts info27
  obtain ⟨j0, hj, hj0, hj1, hj2⟩ := info_parts info22
  have hml : (1000000 : Nat) ≤ maxLen := by unfold maxLen; omega
  have C1 := Lib.hid (great_in h 300 10000 (by omega) (by omega))
  have C2 := Lib.hid (much_is w _ Bo m c' ts hm hmb hC)
  have HI := Lib.hid h
  have HM := Lib.hid hm
  have HC := Lib.hid hC
  have HQ := Lib.hid hq
  have HU := Lib.hid hU
  unfold maxLen at hqb
  clear h hm hmb hC hq hU
  go_enter Try.func6, Try.ntmps6
  go_wp2_with fail
  go_at_call 10
  refine C1.out.mono ?_
  rintro e w' ⟨(rfl | ⟨rfl, g1, g2⟩), rfl⟩
  · go_wp2
    go_ret
    exact ⟨rfl, Below.refl _ _⟩
  have hn3 : n ≤ 300 := by rw [HI.out.lst.len]; exact g1
  clear C1 g1 g2
  go_wp2_with fail
  go_at_call 11
  refine C2.out.mono ?_
  rintro e w' ⟨(rfl | ⟨rfl, g1, g2⟩), rfl⟩
  · go_wp2
    go_ret
    exact ⟨rfl, Below.refl _ _⟩
  have hm6 : m ≤ 60 := by rw [HM.out]; exact g1
  have HF := Lib.hid g2
  clear C2 g1 g2
  by_cases hq6 : 60 < q
  · go_wp2
    go_ret
    exact ⟨rfl, Below.refl _ _⟩
  by_cases hf : Fine zs
  · go_wp2_with fail
    go_at_call 13
    refine (new_yes w A n c zs HI.out.lst.len (by omega) HI.out.lst.nil hf HI.out.lst.srd).mono ?_
    rintro e w1 ⟨v, ps, rfl, hT, hx, hB1⟩
    obtain ⟨b1, rfl⟩ := hT.ptr
    have hz1 := hB1.size
    have T1 := Lib.hid hT
    have X1 := Lib.hid hx
    have B1 := Lib.hid hB1
    clear hT hx hf hB1
    have hBa := (Below.refl w1.heap.size w1).alloc (Nat.le_refl _) (.cells #[.pointer (some ⟨b1, 0, none⟩)] 27)
    have HM0 := Lib.hid (World.ownsRow_lit (base := w.heap.size) (e := 27) (size := 1) w1 #[.pointer (some ⟨b1, 0, none⟩)] 1 hz1 (by omega) rfl)
    have T2 := Lib.hid (T1.out.below hBa)
    have BA := Lib.hid hBa
    clear hBa
    go_wp2_with fail
    go_at_call 20
    refine (lawAll_is _ _ _ ps T2.out).mono ?_
    rintro e w3 ⟨x, rfl, hR3⟩
    obtain ⟨A3, n3, c3, rfl, hL3, hB3⟩ := hR3.lst
    have hz3 : w1.heap.size + 1 ≤ w3.heap.size := by have := hB3.size; simpa using this
    have hBb := (Below.refl w3.heap.size w3).alloc (Nat.le_refl _) (.cells #[.slice A3 n3 c3] 22)
    have B3 := Lib.hid ((B1.out.trans ((BA.out.trans (hB3.mono (by simp))).mono hz1)).trans (hBb.mono (by omega)))
    have HR0 : Hid (Rows2 (w3.alloc (.cells #[.slice A3 n3 c3] 22)) w.heap.size (fun b => (w.heap.size ≤ b ∧ b < w1.heap.size) ∨ (w1.heap.size + 1 ≤ b ∧ b < w3.heap.size)) w1.heap.size 1 w3.heap.size 1 [⟨b1, ps, A3, n3, c3⟩] [⟨b1, ps, A3, n3, c3⟩]) := Lib.hid
      ⟨own_keep (own_keep HM0.out hB3) hBb, World.ownsRow_lit (base := w.heap.size) (e := 22) (size := 1) w3 #[.slice A3 n3 c3] 1 (by omega) (by omega) rfl, by omega, by omega, by omega, fun b hb => by simp; omega⟩
    have HE0 : Hid (EachI (w3.alloc (.cells #[.slice A3 n3 c3] 22)) (fun b => (w.heap.size ≤ b ∧ b < w1.heap.size) ∨ (w1.heap.size + 1 ≤ b ∧ b < w3.heap.size)) ⟨b1, ps, A3, n3, c3⟩) := Lib.hid
      ⟨(((T1.out.mono (F' := fun b => (w.heap.size ≤ b ∧ b < w1.heap.size) ∨ (w1.heap.size + 1 ≤ b ∧ b < w3.heap.size)) (fun b hb hl => .inl ⟨hb, hl⟩)).below (BA.out.trans (hB3.mono (by simp)))).below (hBb.mono (by omega))), (hL3.mono (fun b hb hl => .inr ⟨by simpa using hb, hl⟩)).below hBb⟩
    clear hBb hL3 hR3 hB3 T1 T2 B1 BA HM0
    go_wp2_with fail
    go_loopg [8, 9, 10] m (fun gg s8 s9 s10 wr => ∃ (k L gm cm gh ch : Nat) (F : Nat → Prop) (its : List It), k ≤ m ∧ m - k ≤ gg ∧ s10 = .int .i64 k ∧ s8 = .slice (some ⟨gm, 0, none⟩) L cm ∧ s9 = .slice (some ⟨gh, 0, none⟩) L ch ∧ 1 ≤ L ∧ L ≤ 2 * k + 1 ∧ Hid (L = its.length) ∧ Hid (Rows2 wr w.heap.size F gm cm gh ch its its) ∧ Hid (∀ i ∈ its, EachI wr F i) ∧ Hid (∃ i ∈ its, i.b = b1 ∧ texts i.ps = zs) ∧ Hid (Below w.heap.size w wr))
    case atStart => exact ⟨0, 1, _, _, _, _, _, [⟨b1, ps, A3, n3, c3⟩], Nat.zero_le _, by omega, rfl, rfl, rfl, by omega, by omega, rfl, HR0, (fun i hi => by rw [List.mem_singleton.1 hi]; exact HE0.out), ⟨⟨b1, ps, A3, n3, c3⟩, by simp, rfl, X1.out⟩, B3⟩
    case round =>
      obtain ⟨k, L, gm, cm, gh, ch, F, its, hk, hg, rfl, rfl, rfl, hL1, hL2, HLn, HR, HE, HFi, HB⟩ := hrel
      have hz := HB.out.size
      clear HR0 HE0 B3
      by_cases hlt : k < m
      · go_upto_if 46 with (fail)
        go_cut [11] from 37 to 106 (fun s11 wx => ∃ idx : Nat, s11 = .int .i64 idx ∧ idx < L ∧ wx = wr)
        case first =>
          by_cases hkq : k < q
          · obtain ⟨x, hx⟩ : ∃ x, us[k]? = some x := ⟨_, List.getElem?_eq_getElem (by rw [← HQ.out]; exact hkq)⟩
            obtain ⟨bu, ou, rfl, _, _, hcu⟩ := (HU.out.below HB.out) (by rw [List.length_map, ← HQ.out]; omega)
            have gu : wr.cell? ⟨bu, ou + k, none⟩ = some (.int .u8 x.toNat) := hcu k _ (by rw [List.getElem?_map, hx]; rfl)
            have hx2 : x.toNat < 256 := x.toNat_lt
            clear hcu hx
            generalize x.toNat = xn at gu hx2
            go_wp2
            go_meet
            exact ⟨xn % L, by rw [Int.natCast_emod], Nat.mod_lt _ (by omega), rfl⟩
          · go_wp2
            go_meet
            exact ⟨0, rfl, by omega, rfl⟩
        case rest =>
          obtain ⟨idx, rfl, hidx, hwx⟩ := hcut
          have hwx := hwx.symm
          subst hwx
          obtain ⟨it, hit⟩ : ∃ it, its[idx]? = some it := ⟨_, List.getElem?_eq_getElem (by rw [← HLn.out]; exact hidx)⟩
          have TI : Hid (Tab wr F (.pointer (some ⟨it.b, 0, none⟩)) it.ps) := Lib.hid (HE.out it (List.mem_of_getElem? hit)).tab
          have cm0 := HR.out.cellM hit
          have hgm := (HR.out.made.lt gm rfl).2
          have hgmb := (HR.out.made.lt gm rfl).1
          have hghb := (HR.out.had.lt gh rfl).1
          obtain ⟨t, ht⟩ : ∃ t, ts[k]? = some t := ⟨_, List.getElem?_eq_getElem (by rw [← HM.out]; exact hlt)⟩
          have HC4 := Lib.hid (HC.out.below HB.out)
          have HOK := Lib.hid (HC4.out.each t (List.mem_of_getElem? ht))
          obtain ⟨bt, ot, hBt, ct0, ct1, ct2⟩ := HC4.out.at ht
          have hfew : t.ins.length ≤ 2100 := (HF.out t (List.mem_of_getElem? ht)).1
          subst hBt
          have hbl : bt < wr.heap.size := World.block_lt_of_cell? _ _ ct0
          have M4 : More wr.heap.size wr wr := Below.refl _ _
          have M4' : More wr.heap.size wr wr.drew := below_drew (Below.refl _ _)
          have SK : Hid (∀ W, More wr.heap.size wr W → W.cell? ⟨gm, idx, none⟩ = some (.pointer (some ⟨it.b, 0, none⟩)) ∧ W.cell? ⟨bt, ot + k * 3, none⟩ = some (.int .i64 t.a) ∧ W.cell? ⟨bt, ot + k * 3 + 1, none⟩ = some (.int .i64 t.d) ∧ W.cell? ⟨bt, ot + k * 3 + 2, none⟩ = some (.slice t.A t.ins.length t.c) ∧ More wr.heap.size wr W) := Lib.hid (fun W hW =>
            ⟨(Below.cell hW.to (p := ⟨gm, idx, none⟩) hgm).trans cm0, (Below.cell hW.to (p := ⟨bt, ot + k * 3, none⟩) hbl).trans ct0, (Below.cell hW.to (p := ⟨bt, ot + k * 3 + 1, none⟩) hbl).trans ct1, (Below.cell hW.to (p := ⟨bt, ot + k * 3 + 2, none⟩) hbl).trans ct2, hW⟩)
          have S4 := SK.out _ M4
          have S4' := SK.out _ M4'
          clear ht hit
          by_cases hE : splE (texts it.ps).length t.a t.d t.ins = 0
          · have K := Lib.hid (play_good wr F _ it.ps TI.out t.a t.d HOK.out.a1 HOK.out.a2 HOK.out.d1 HOK.out.d2 t.A _ t.c t.ins HOK.out.lst.any (by omega) hE)
            clear hE
            go_wp2_with fail
            go_region_held3 (fun W => W.cell? ⟨gm, idx, none⟩ = some (.pointer (some ⟨it.b, 0, none⟩)) ∧ W.cell? ⟨bt, ot + k * 3, none⟩ = some (.int .i64 t.a) ∧ W.cell? ⟨bt, ot + k * 3 + 1, none⟩ = some (.int .i64 t.d) ∧ W.cell? ⟨bt, ot + k * 3 + 2, none⟩ = some (.slice t.A t.ins.length t.c) ∧ More wr.heap.size wr W) (first | assumption | exact ⟨by assumption, by assumption, by assumption, by assumption, by assumption⟩)
              ((go_at_call 17; refine (K.out _ (held5 (by assumption))).mono ?_; rintro e w5 ⟨b5, p5, rfl, hT5, hx5, M5⟩; have S5 := SK.out w5 M5))
            have hz5 := M5.to.size
            have B5 := Lib.hid (HB.out.trans (M5.to.mono hz))
            have R5 := Lib.hid (HR.out.more (F' := fun b => F b ∨ (wr.heap.size ≤ b ∧ b < w5.heap.size)) M5.to (fun b hb => hb))
            have E5 := Lib.hid (fun i hi => ((HE.out i hi).below M5.to).mono (F' := fun b => F b ∨ (wr.heap.size ≤ b ∧ b < w5.heap.size)) (fun b hb _ => .inl hb))
            have T5 := Lib.hid (hT5.mono (F' := fun b => F b ∨ (wr.heap.size ≤ b ∧ b < w5.heap.size)) (fun b hb hl => hb.imp id (fun h => ⟨h, hl⟩)))
            clear hT5 hx5 S5 M5 S4 S4' M4 M4' SK K ct0 ct1 ct2 cm0 HR HE TI HOK HC4 hbl
            generalize hF5 : (fun b => F b ∨ (wr.heap.size ≤ b ∧ b < w5.heap.size)) = F5 at R5 E5 T5
            clear hF5
            have RM5 := R5.out.made
            rw [← HLn.out] at RM5
            go_wp2_with (at_builtin; refine wpList_append_lies _ rfl (.tmp 80) (.tmp 82) 56 rfl w.heap.size 27 i0 (.pointer none) 1 8 Try.underlying56 hi hz0 hz1' hz2' rfl (by decide) _ _ _ rfl (RM5.alloc _) ⟨w5.heap.size, 0, none⟩ 1 1 [.pointer (some ⟨b5, 0, none⟩)] rfl rfl (cell_one_new _ _ _) (one_ptr b5) (by decide) (by omega) (by omega) (by simp; omega) _ rfl ?_; intro g6 c6 w6 hown6 hgrow6 hor6 _)
            go_at_call 20
            have hp6 := R5.out.pushM (o := .cells #[.pointer (some ⟨b5, 0, none⟩)] 27) (g' := g6) (cap := c6) (w' := w6) ⟨b5, p5, none, 0, 0⟩ (by rw [← HLn.out]; exact hown6) hgrow6 hor6
            have R6 := Lib.hid hp6.1
            have U6 := hp6.2
            have hz6 := U6.size
            have B6 := Lib.hid (B5.out.trans (U6.below (by omega) hgmb))
            have E6 := Lib.hid (fun i hi => (E5.out i hi).but U6 R5.out.mF)
            have T6 := Lib.hid (T5.out.but' U6 R5.out.mF)
            clear hp6 U6 hown6 hgrow6 hor6 RM5 R5 E5 T5 B5
            refine (lawAll_is _ _ _ p5 T6.out).mono ?_
            rintro e w7 ⟨x, rfl, hR7⟩
            obtain ⟨A7, n7, c7, rfl, hL7, hB7⟩ := hR7.lst
            have hz7 := hB7.size
            have B7 := Lib.hid (B6.out.trans (hB7.mono (by omega)))
            have R7 := Lib.hid ((R6.out.more (F' := fun b => F5 b ∨ (w6.heap.size ≤ b ∧ b < w7.heap.size)) hB7 (fun b hb => hb)).alter (is' := its ++ [⟨b5, p5, A7, n7, c7⟩]) (by simp [It.pt]))
            have E7 := Lib.hid (fun i hi => ((E6.out i hi).below hB7).mono (F' := fun b => F5 b ∨ (w6.heap.size ≤ b ∧ b < w7.heap.size)) (fun b hb _ => .inl hb))
            have I7 : Hid (EachI w7 (fun b => F5 b ∨ (w6.heap.size ≤ b ∧ b < w7.heap.size)) ⟨b5, p5, A7, n7, c7⟩) := Lib.hid ⟨(T6.out.below hB7).mono (fun b hb _ => .inl hb), hL7.mono (fun b hb hl => .inr ⟨hb, hl⟩)⟩
            clear hB7 hL7 hR7 R6 E6 T6 B6
            generalize hF7 : (fun b => F5 b ∨ (w6.heap.size ≤ b ∧ b < w7.heap.size)) = F7 at R7 E7 I7
            clear hF7
            have RH7 := R7.out.had
            rw [← HLn.out] at RH7
            have hgh7 : w.heap.size ≤ w7.heap.size := by omega
            by_cases h5 : (k : Int) % 5 = 0
            · have h5b : ((k : Int) % 5 == 0) = true := by rw [h5]; rfl
              go_wp2_with (at_builtin; refine wpList_append_lies _ rfl (.tmp 84) (.tmp 87) 50 rfl w.heap.size 22 j0 (.slice none 0 0) 1 24 Try.underlying50 hj hj0 hj1 hj2 rfl (by decide) _ _ _ rfl (RH7.alloc _) ⟨w7.heap.size, 0, none⟩ 1 1 [.slice A7 n7 c7] rfl rfl (cell_one_new _ _ _) (one_sl _ _ _) (by decide) (by omega) (by omega) (by simp; omega) _ rfl ?_; intro g8 c8 w8 hown8 hgrow8 hor8 _)
              go_at_call 27
              have hp8 := R7.out.pushH (o := .cells #[.slice A7 n7 c7] 22) (g' := g8) (cap := c8) (w' := w8) ⟨b5, p5, A7, n7, c7⟩ (by rw [← HLn.out]; exact hown8) hgrow8 hor8
              have R8 := Lib.hid hp8.1
              have U8 := hp8.2
              have hz8 := U8.size
              have B8 := Lib.hid (B7.out.trans (U8.below (by omega) hghb))
              have E8 := Lib.hid (fun i hi => (E7.out i hi).but U8 R7.out.hF)
              have I8 := Lib.hid (I7.out.but U8 R7.out.hF)
              clear hp8 U8 hown8 hgrow8 hor8 RH7 R7 E7 I7 B7
              refine (compact_is _ _ _ p5 I8.out.tab).mono ?_
              rintro e w9 ⟨cv, pc, rfl, hT9, hx9, _, hB9⟩
              obtain ⟨bc, rfl⟩ := hT9.ptr
              have hz9 := hB9.size
              have B9 := Lib.hid (B8.out.trans (hB9.mono (by omega)))
              have R9 := Lib.hid (R8.out.more (F' := fun b => F7 b ∨ (w8.heap.size ≤ b ∧ b < w9.heap.size)) hB9 (fun b hb => hb))
              have E9 := Lib.hid (fun i hi => ((E8.out i hi).below hB9).mono (F' := fun b => F7 b ∨ (w8.heap.size ≤ b ∧ b < w9.heap.size)) (fun b hb _ => .inl hb))
              have I9 := Lib.hid ((I8.out.below hB9).mono (F' := fun b => F7 b ∨ (w8.heap.size ≤ b ∧ b < w9.heap.size)) (fun b hb _ => .inl hb))
              have J9 : Hid (EachI w9 (fun b => F7 b ∨ (w8.heap.size ≤ b ∧ b < w9.heap.size)) ⟨bc, pc, A7, n7, c7⟩) := Lib.hid ⟨hT9.mono (fun b hb hl => .inr ⟨hb, hl⟩), by rw [hx9]; exact I9.out.lst⟩
              clear hB9 hT9 hx9 R8 E8 I8 B8
              generalize hF9 : (fun b => F7 b ∨ (w8.heap.size ≤ b ∧ b < w9.heap.size)) = F9 at R9 E9 I9 J9
              clear hF9
              have HL1 : Hid (L + 1 = (its ++ [(⟨b5, p5, A7, n7, c7⟩ : It)]).length) := Lib.hid (by rw [List.length_append, ← HLn.out]; rfl)
              have RM9 := R9.out.made
              rw [← HL1.out] at RM9
              have hg6b := (R9.out.made.lt g6 rfl).1
              have hg8b := (R9.out.had.lt g8 rfl).1
              have hs1 : ((L + 1 : Nat) : Int) - 1 = (L : Int) := by omega
              go_wp2_with (first
                | (at_builtin; refine wpList_append_lies _ rfl (.tmp 94) (.tmp 96) 56 rfl w.heap.size 27 i0 (.pointer none) 1 8 Try.underlying56 hi hz0 hz1' hz2' rfl (by decide) _ _ _ rfl (RM9.alloc _) ⟨w9.heap.size, 0, none⟩ 1 1 [.pointer (some ⟨bc, 0, none⟩)] rfl rfl (cell_one_new _ _ _) (one_ptr bc) (by decide) (by omega) (by omega) (by simp; omega) _ rfl ?_; intro g10 c10 w10 hown10 hgrow10 hor10 _; have hp10 := Lib.hid (R9.out.pushM (o := .cells #[.pointer (some ⟨bc, 0, none⟩)] 27) (g' := g10) (cap := c10) (w' := w10) ⟨bc, pc, A7, n7, c7⟩ (by rw [← HL1.out]; exact hown10) hgrow10 hor10); have hc10 : w10.cell? ⟨g8, L, none⟩ = some (.slice A7 n7 c7) := (by have h1 := hp10.out.1.cellH (last_item its ⟨b5, p5, A7, n7, c7⟩); rw [← HLn.out] at h1; exact h1); have RH10 := hp10.out.1.had; rw [← HL1.out] at RH10; have hz10 := hp10.out.2.size)
                | (at_builtin; refine wpList_append_lies _ rfl (.tmp 98) (.tmp 105) 50 rfl w.heap.size 22 j0 (.slice none 0 0) 1 24 Try.underlying50 hj hj0 hj1 hj2 rfl (by decide) _ _ _ rfl (RH10.alloc _) ⟨w10.heap.size, 0, none⟩ 1 1 [.slice A7 n7 c7] rfl rfl (cell_one_new _ _ _) (one_sl _ _ _) (by decide) (by omega) (by omega) (by simp; omega) _ rfl ?_; intro g11 c11 w11 hown11 hgrow11 hor11 _))
              have hp11 := Lib.hid (hp10.out.1.pushH (o := .cells #[.slice A7 n7 c7] 22) (g' := g11) (cap := c11) (w' := w11) ⟨bc, pc, A7, n7, c7⟩ (by rw [← HL1.out]; exact hown11) hgrow11 hor11)
              have B11 := Lib.hid ((B9.out.trans (hp10.out.2.below (by omega) hg6b)).trans (hp11.out.2.below (by omega) hg8b))
              have E11 : Hid (∀ i ∈ its ++ [(⟨b5, p5, A7, n7, c7⟩ : It)] ++ [(⟨bc, pc, A7, n7, c7⟩ : It)], EachI w11 F9 i) := Lib.hid (fun i hi => by
                have h1 : EachI w9 F9 i := by
                  rw [List.mem_append, List.mem_append] at hi
                  rcases hi with (hi | hi) | hi
                  · exact E9.out i hi
                  · rw [List.mem_singleton.1 hi]; exact I9.out
                  · rw [List.mem_singleton.1 hi]; exact J9.out
                exact (h1.but hp10.out.2 R9.out.mF).but hp11.out.2 hp10.out.1.hF)
              clear hown10 hgrow10 hor10 hown11 hgrow11 hor11 RH10 RM9 hc10
              go_roundg (m - (k + 1))
              case measure => omega
              case rel =>
                refine ⟨k + 1, L + 1 + 1, _, _, _, _, F9, its ++ [(⟨b5, p5, A7, n7, c7⟩ : It)] ++ [(⟨bc, pc, A7, n7, c7⟩ : It)], by omega, by omega, by go_num, rfl, rfl, by omega, by omega, Lib.hid (by rw [List.length_append, ← HL1.out]; rfl), Lib.hid hp11.out.1, E11, ?_, B11⟩
                obtain ⟨i, hi1, hi2⟩ := HFi.out
                exact ⟨i, by simp [hi1], hi2⟩
            · have h5b : ((k : Int) % 5 == 0) = false := by rw [beq_eq_false_iff_ne]; exact h5
              go_wp2_with (at_builtin; refine wpList_append_lies _ rfl (.tmp 84) (.tmp 87) 50 rfl w.heap.size 22 j0 (.slice none 0 0) 1 24 Try.underlying50 hj hj0 hj1 hj2 rfl (by decide) _ _ _ rfl (RH7.alloc _) ⟨w7.heap.size, 0, none⟩ 1 1 [.slice A7 n7 c7] rfl rfl (cell_one_new _ _ _) (one_sl _ _ _) (by decide) (by omega) (by omega) (by simp; omega) _ rfl ?_; intro g8 c8 w8 hown8 hgrow8 hor8 _)
              have hp8 := R7.out.pushH (o := .cells #[.slice A7 n7 c7] 22) (g' := g8) (cap := c8) (w' := w8) ⟨b5, p5, A7, n7, c7⟩ (by rw [← HLn.out]; exact hown8) hgrow8 hor8
              have R8 := Lib.hid hp8.1
              have U8 := hp8.2
              have hz8 := U8.size
              have B8 := Lib.hid (B7.out.trans (U8.below (by omega) hghb))
              have E8 := Lib.hid (fun i hi => (E7.out i hi).but U8 R7.out.hF)
              have I8 := Lib.hid (I7.out.but U8 R7.out.hF)
              clear hp8 U8 hown8 hgrow8 hor8 RH7 R7 E7 I7 B7
              have E8' : Hid (∀ i ∈ its ++ [(⟨b5, p5, A7, n7, c7⟩ : It)], EachI w8 F7 i) := Lib.hid (fun i hi => by
                rw [List.mem_append] at hi
                rcases hi with hi | hi
                · exact E8.out i hi
                · rw [List.mem_singleton.1 hi]; exact I8.out)
              go_roundg (m - (k + 1))
              case measure => omega
              case rel =>
                refine ⟨k + 1, L + 1, _, _, _, _, F7, its ++ [(⟨b5, p5, A7, n7, c7⟩ : It)], by omega, by omega, by go_num, rfl, rfl, by omega, by omega, Lib.hid (by rw [List.length_append, ← HLn.out]; rfl), R8, E8', ?_, B8⟩
                obtain ⟨i, hi1, hi2⟩ := HFi.out
                exact ⟨i, by simp [hi1], hi2⟩
          · obtain ⟨e5, he5⟩ : ∃ e5, splE (texts it.ps).length t.a t.d t.ins = e5 := ⟨_, rfl⟩
            rw [he5] at hE
            have K := Lib.hid (play_bad wr _ it.ps TI.out.any t.a t.d HOK.out.a1 HOK.out.a2 HOK.out.d1 HOK.out.d2 t.A _ t.c t.ins HOK.out.lst.any (by omega) e5 he5 hE)
            have hEb : (e5 == 0) = false := by rw [beq_eq_false_iff_ne]; exact hE
            clear hE he5
            go_wp2_with fail
            go_region_held3 (fun W => W.cell? ⟨gm, idx, none⟩ = some (.pointer (some ⟨it.b, 0, none⟩)) ∧ W.cell? ⟨bt, ot + k * 3, none⟩ = some (.int .i64 t.a) ∧ W.cell? ⟨bt, ot + k * 3 + 1, none⟩ = some (.int .i64 t.d) ∧ W.cell? ⟨bt, ot + k * 3 + 2, none⟩ = some (.slice t.A t.ins.length t.c) ∧ More wr.heap.size wr W) (first | assumption | exact ⟨by assumption, by assumption, by assumption, by assumption, by assumption⟩)
              ((go_at_call 17; refine (K.out _ (held5 (by assumption))).mono ?_; rintro e w5 ⟨rfl, M5⟩; have S5 := SK.out w5 M5))
            have hz5 := M5.to.size
            have B5 := Lib.hid (HB.out.trans (M5.to.mono hz))
            have R5 := Lib.hid (HR.out.below M5.to)
            have E5 := Lib.hid (fun i hi => (HE.out i hi).below M5.to)
            clear S5 M5 S4 S4' M4 M4' SK K ct0 ct1 ct2 cm0 HR HE TI HOK HC4 hbl
            go_wp2
            go_roundg (m - (k + 1))
            case measure => omega
            case rel => exact ⟨k + 1, L, gm, cm, gh, ch, F, its, by omega, by omega, by go_num, rfl, rfl, hL1, by omega, HLn, R5, E5, HFi, B5⟩
      · have hkm : k = m := by omega
        subst hkm
        obtain ⟨i1, hi1, hib, hix⟩ := HFi.out
        have T1 : Hid (Tb wr (.pointer (some ⟨b1, 0, none⟩)) i1.ps) := Lib.hid (by rw [← hib]; exact (HE.out i1 hi1).tab.any)
        have X1 := Lib.hid hix
        clear hi1 hib hix
        go_wp2
        go_loopg [15] L (fun gg s15 wq => ∃ j : Nat, j ≤ L ∧ L - j ≤ gg ∧ s15 = .int .i64 j ∧ Hid (Below wr.heap.size wr wq))
        case atStart => exact ⟨0, Nat.zero_le _, by omega, rfl, Lib.hid (Below.refl _ _)⟩
        case round =>
          obtain ⟨j, hj, hgj, rfl, HW⟩ := hrel
          have hzq := HW.out.size
          by_cases hjl : j < L
          · obtain ⟨it, hit⟩ : ∃ it, its[j]? = some it := ⟨_, List.getElem?_eq_getElem (by rw [← HLn.out]; exact hjl)⟩
            have RQ := Lib.hid (HR.out.below HW.out)
            have EQ := Lib.hid ((HE.out it (List.mem_of_getElem? hit)).below HW.out)
            have cm0 := RQ.out.cellM hit
            have ch0 := RQ.out.cellH hit
            have hgm := (RQ.out.made.lt gm rfl).2
            have hgh := (RQ.out.had.lt gh rfl).2
            have M4 : More wr.heap.size wr wr := Below.refl _ _
            have M4' : More wr.heap.size wr wr.drew := below_drew (Below.refl _ _)
            have SK : Hid (∀ W, More wr.heap.size wr W → W.cell? ⟨gm, j, none⟩ = some (.pointer (some ⟨it.b, 0, none⟩)) ∧ W.cell? ⟨gh, j, none⟩ = some (.slice it.A it.n it.c) ∧ More wr.heap.size wr W) := Lib.hid (fun W hW =>
              ⟨(Below.cell hW.to (p := ⟨gm, j, none⟩) hgm).trans cm0, (Below.cell hW.to (p := ⟨gh, j, none⟩) hgh).trans ch0, hW⟩)
            have S4 := SK.out _ M4
            have S4' := SK.out _ M4'
            have TQ : Hid (Tb wr (.pointer (some ⟨it.b, 0, none⟩)) it.ps) := Lib.hid EQ.out.tab.any
            have L1 := Lib.hid (all_at wr _ it.ps TQ.out (texts it.ps) rfl)
            have L2 := Lib.hid (same_at wr it.A it.n it.c (texts it.ps) EQ.out.lst.any (by have := TQ.out.len; omega))
            clear hit
            go_wp2_with fail
            go_region_held3 (fun W => W.cell? ⟨gm, j, none⟩ = some (.pointer (some ⟨it.b, 0, none⟩)) ∧ W.cell? ⟨gh, j, none⟩ = some (.slice it.A it.n it.c) ∧ More wr.heap.size wr W) (first | assumption | exact ⟨by assumption, by assumption, by assumption⟩) (first
              | (go_at_call 20; refine (L1.out _ (held3 (by assumption))).mono ?_; rintro e w8 ⟨A8, n8, c8, rfl, hL8, M8⟩; have S8 := SK.out w8 M8)
              | (go_at_call 19; have hq := hL8; clear hL8; refine (L2.out A8 n8 c8 _ (by first | exact hq | exact hq.drew) (held3 (by assumption))).mono ?_; rintro e w9 ⟨rfl, M9⟩; have S9 := SK.out w9 M9; clear hq))
            have W9 := Lib.hid (HW.out.trans (M9.to.mono hzq))
            clear S4 S4' M4 M4' S8 S9 M8 M9 SK L1 L2 cm0 ch0 RQ EQ TQ
            go_wp2
            go_roundg (L - (j + 1))
            case measure => omega
            case rel => exact ⟨j + 1, by omega, by omega, by go_num, W9⟩
          · have hjL : j = L := by omega
            subst hjL
            have T7 := Lib.hid (T1.out.below HW.out)
            have B7 := Lib.hid (HB.out.trans (HW.out.mono hz))
            go_wp2_with fail
            go_at_call 20
            refine (lawAll_is _ _ _ i1.ps T7.out).mono ?_
            rintro e w8 ⟨x, rfl, hR8⟩
            obtain ⟨A8, n8, c8, rfl, hL8, hB8⟩ := hR8.lst
            rw [X1.out] at hL8
            have hz8 := hB8.size
            have B8 := Lib.hid (B7.out.trans (hB8.mono (by omega)))
            have M8 := Lib.hid hL8
            have hn8b : n8 ≤ 2000 := by rw [hL8.len, ← HI.out.lst.len]; omega
            clear hB8 hL8 hR8 T7 B7
            go_wp2_with fail
            go_at_call 19
            refine (same12_b A8 A c8 c n8 n zs zs w8 true M8.out.len HI.out.lst.len (by omega) (by omega) (by simp) M8.out.srd (HI.out.lst.below B8.out).srd).mono ?_
            rintro e w9 ⟨rfl, hB9⟩
            have hz9 := hB9.size
            have B9 := Lib.hid (B8.out.trans (hB9.mono (by omega)))
            clear hB9 B8 M8
            go_wp2_with fail
            go_at_call 16
            refine (does_is w9).mono ?_
            rintro e w10 ⟨rfl, hB10⟩
            have B10 := Lib.hid (B9.out.trans (hB10.mono (by omega)))
            clear hB10 B9
            go_wp2
            go_ret
            exact ⟨rfl, B10.out⟩
  · go_wp2_with fail
    go_at_call 13
    refine (new_no w A n c zs HI.out.lst.len (by omega) hf HI.out.lst.srd).mono ?_
    rintro e w1 ⟨rfl, hB1⟩
    have hz1 := hB1.size
    have B1 := Lib.hid hB1
    clear hf hB1
    go_wp2_with fail
    go_at_call 16
    refine (does_is w1).mono ?_
    rintro e w2 ⟨rfl, hB2⟩
    have B2 := Lib.hid (B1.out.trans (hB2.mono hz1))
    clear hB2
    go_wp2
    go_ret
    exact ⟨rfl, B2.out⟩
end Go.Proofs.Ytpopnplncgpfkaa.pce
