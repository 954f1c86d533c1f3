/- Grids: Put, of the document. -/
import Derived.Test.YtaapoinggdempaaGrdPut
import Derived.Test.YtaapoinggdempaaGrdRefClone
import Derived.Test.YtaapoinggdempaaGrdMay
namespace Go.Proofs.Ytaapoinggdempaa.grd
open Go.RowKit Go.Lib
set_option linter.unusedVariables false
set_option linter.unusedSimpArgs false
set_option linter.unnecessarySimpa false
set_option linter.unusedSectionVars false

theorem putOk7 (R C r k : Int) (ls : List (List UInt8)) (row col : Int) (b : UInt8) : putOk ⟨R, C, ls, r, k⟩ row col b = (may ⟨R, C, ls, r, k⟩ && decide (0 ≤ row) && decide (row < R) && decide (0 ≤ col) && decide (col < C) && decide (32 ≤ (b.toNat : Int)) && decide ((b.toNat : Int) ≤ 126)) := by
  unfold putOk hasB okB
  rw [Bool.eq_iff_iff]
  simp only [Bool.and_eq_true, decide_eq_true_eq]
  constructor
  · rintro ⟨⟨h1, h2, h3, h4, h5⟩, h6, h7⟩; exact ⟨⟨⟨⟨⟨⟨h1, h2⟩, h3⟩, h4⟩, h5⟩, by omega⟩, by omega⟩
  · rintro ⟨⟨⟨⟨⟨⟨h1, h2⟩, h3⟩, h4⟩, h5⟩, h6⟩, h7⟩; exact ⟨⟨h1, h2, h3, h4, h5⟩, by omega, by omega⟩
set_option maxHeartbeats 16000000 in
set_option maxRecDepth 100000 in
theorem refPut_is (R C r k : Int) (A : Option Addr) (n c : Nat) (ls : List (List UInt8)) (row col : Int) (b : UInt8) (w : World) (hf : few ls) (h1 : Gr w 0 w.heap.size A n c ls) :
    Calls Try.prog 19 #[.agg #[.int .i64 R, .int .i64 C, .slice A n c, .int .i64 r, .int .i64 k], .int .i64 row, .int .i64 col, .int .u8 (b.toNat : Int)] w fun e w' => ∃ A' c', e = .returned (.agg #[.int .i64 R, .int .i64 C, .slice A' n c', .int .i64 r, .int .i64 k]) ∧ Own w' w.heap.size w'.heap.size A' n c' (putC ⟨R, C, ls, r, k⟩ row col b) ∧ Below w.heap.size w w' := by
  have N1 := Lib.hid h1.len
  have m1 : n ≤ 200 := by have := hf.1; have := h1.len; omega
  have P7 := putOk7 R C r k ls row col b
  obtain ⟨b1, hb1⟩ : ∃ b, may ⟨R, C, ls, r, k⟩ = b := ⟨_, rfl⟩
  obtain ⟨b2, hb2⟩ : ∃ b, decide (0 ≤ row) = b := ⟨_, rfl⟩
  obtain ⟨b3, hb3⟩ : ∃ b, decide (row < R) = b := ⟨_, rfl⟩
  obtain ⟨b4, hb4⟩ : ∃ b, decide (0 ≤ col) = b := ⟨_, rfl⟩
  obtain ⟨b5, hb5⟩ : ∃ b, decide (col < C) = b := ⟨_, rfl⟩
  obtain ⟨t, ht⟩ : ∃ t : Nat, t = b.toNat := ⟨_, rfl⟩
  rw [← ht] at P7 ⊢
  obtain ⟨b6, hb6⟩ : ∃ z, decide (32 ≤ (t : Int)) = z := ⟨_, rfl⟩
  obtain ⟨b7, hb7⟩ : ∃ z, decide ((t : Int) ≤ 126) = z := ⟨_, rfl⟩
  have CC := Lib.hid (fun W (h : Gr W 0 W.heap.size A n c ls) => refClone_is R C r k A n c ls W hf h)
  have CK := Lib.hid (fun W (h : Gr W 0 W.heap.size A n c ls) => refMay_is R C r k A n c ls b1 hb1 W hf h)
  have K1 := Lib.hid hb1
  have H1 := Lib.hid h1
  have HT := Lib.hid ht
  rw [hb1, hb2, hb3, hb4, hb5, hb6, hb7] at P7
  have PO := Lib.hid P7
  have tb : t < 256 := by rw [ht]; exact b.toNat_lt
  clear hb1 h1 hf P7 ht
  cases b1
  · skip
    go_enter Try.func19, Try.ntmps19
    go_wp2_with fail
    go_at_call 14
    refine (CC.out _ ((H1.out.below (below2 w _ _ _ _) (Nat.le_refl _)).mono (Nat.le_refl _) (by simp; omega))).mono ?_
    rintro e w1 ⟨A', c', rfl, hO, hB⟩
    have HO := Lib.hid hO
    have HB := Lib.hid hB
    have HN := Lib.hid (At.new w1 24 #[.int .i64 0, .int .i64 0, .slice none 0 0, .int .i64 0, .int .i64 0])
    have hz1 := (fresh HB.out).2.2.2
    obtain ⟨a0, a1, a2, a3, a4⟩ := ((fresh HB.out).1.alloc (.cells #[.int .i64 0, .int .i64 0, .slice none 0 0, .int .i64 0, .int .i64 0] 24)).five
    clear hO hB
    go_wp2_with (refine wpList_storeG rfl (.tmp 9) (.tmp 11) rfl w1.heap.size R C r k A' n c' rfl rfl _ HN.out rfl ?_; intro w2 hA2 hBut; have HP := Lib.hid (PutAt.mk' rfl rfl HB.out HO.out hA2 hBut); clear hA2 hBut a0 a1 a2 a3 a4; obtain ⟨a0, a1, a2, a3, a4⟩ := HP.out.inn.five)
    go_at_call 31
    refine (CK.out _ ((H1.out.below HP.out.below (Nat.le_refl _)).mono (Nat.le_refl _) HP.out.below.size)).mono ?_
    rintro e w3 ⟨rfl, hB3⟩
    have HP3 := Lib.hid (HP.out.keep hB3)
    clear hB3 a0 a1 a2 a3 a4
    obtain ⟨a0, a1, a2, a3, a4⟩ := HP3.out.inn.five
    obtain ⟨c0, c1, c2, c3, c4⟩ := HP3.out.cl.five
    have HZ := Lib.hid HP3.out.out
    go_wp2_with (refine wpList_storeG rfl (.tmp 8) (.tmp 50) rfl (w.heap.size + 1) R C r k A' n c' rfl rfl _ HZ.out rfl ?_; intro w9 hA9 hBut9)
    obtain ⟨d0, d1, d2, d3, d4⟩ := hA9.five
    obtain ⟨f1, f2⟩ := HP3.out.done hBut9
    refine bodyPost_ret (v := .agg #[.int .i64 R, .int .i64 C, .slice A' n c', .int .i64 r, .int .i64 k]) (by simp [results, Try.results19, go_sem, d0, d1, d2, d3, d4]) rfl ⟨A', c', rfl, ?_, f2⟩
    rw [putC_no (by rw [PO.out]; rfl)]; exact f1
  · skip
    cases b2
    · skip
      go_enter Try.func19, Try.ntmps19
      go_wp2_with fail
      go_at_call 14
      refine (CC.out _ ((H1.out.below (below2 w _ _ _ _) (Nat.le_refl _)).mono (Nat.le_refl _) (by simp; omega))).mono ?_
      rintro e w1 ⟨A', c', rfl, hO, hB⟩
      have HO := Lib.hid hO
      have HB := Lib.hid hB
      have HN := Lib.hid (At.new w1 24 #[.int .i64 0, .int .i64 0, .slice none 0 0, .int .i64 0, .int .i64 0])
      have hz1 := (fresh HB.out).2.2.2
      obtain ⟨a0, a1, a2, a3, a4⟩ := ((fresh HB.out).1.alloc (.cells #[.int .i64 0, .int .i64 0, .slice none 0 0, .int .i64 0, .int .i64 0] 24)).five
      clear hO hB
      go_wp2_with (refine wpList_storeG rfl (.tmp 9) (.tmp 11) rfl w1.heap.size R C r k A' n c' rfl rfl _ HN.out rfl ?_; intro w2 hA2 hBut; have HP := Lib.hid (PutAt.mk' rfl rfl HB.out HO.out hA2 hBut); clear hA2 hBut a0 a1 a2 a3 a4; obtain ⟨a0, a1, a2, a3, a4⟩ := HP.out.inn.five)
      go_at_call 31
      refine (CK.out _ ((H1.out.below HP.out.below (Nat.le_refl _)).mono (Nat.le_refl _) HP.out.below.size)).mono ?_
      rintro e w3 ⟨rfl, hB3⟩
      have HP3 := Lib.hid (HP.out.keep hB3)
      clear hB3 a0 a1 a2 a3 a4
      obtain ⟨a0, a1, a2, a3, a4⟩ := HP3.out.inn.five
      obtain ⟨c0, c1, c2, c3, c4⟩ := HP3.out.cl.five
      have HZ := Lib.hid HP3.out.out
      go_wp2_with (refine wpList_storeG rfl (.tmp 8) (.tmp 50) rfl (w.heap.size + 1) R C r k A' n c' rfl rfl _ HZ.out rfl ?_; intro w9 hA9 hBut9)
      obtain ⟨d0, d1, d2, d3, d4⟩ := hA9.five
      obtain ⟨f1, f2⟩ := HP3.out.done hBut9
      refine bodyPost_ret (v := .agg #[.int .i64 R, .int .i64 C, .slice A' n c', .int .i64 r, .int .i64 k]) (by simp [results, Try.results19, go_sem, d0, d1, d2, d3, d4]) rfl ⟨A', c', rfl, ?_, f2⟩
      rw [putC_no (by rw [PO.out]; rfl)]; exact f1
    · skip
      cases b3
      · skip
        go_enter Try.func19, Try.ntmps19
        go_wp2_with fail
        go_at_call 14
        refine (CC.out _ ((H1.out.below (below2 w _ _ _ _) (Nat.le_refl _)).mono (Nat.le_refl _) (by simp; omega))).mono ?_
        rintro e w1 ⟨A', c', rfl, hO, hB⟩
        have HO := Lib.hid hO
        have HB := Lib.hid hB
        have HN := Lib.hid (At.new w1 24 #[.int .i64 0, .int .i64 0, .slice none 0 0, .int .i64 0, .int .i64 0])
        have hz1 := (fresh HB.out).2.2.2
        obtain ⟨a0, a1, a2, a3, a4⟩ := ((fresh HB.out).1.alloc (.cells #[.int .i64 0, .int .i64 0, .slice none 0 0, .int .i64 0, .int .i64 0] 24)).five
        clear hO hB
        go_wp2_with (refine wpList_storeG rfl (.tmp 9) (.tmp 11) rfl w1.heap.size R C r k A' n c' rfl rfl _ HN.out rfl ?_; intro w2 hA2 hBut; have HP := Lib.hid (PutAt.mk' rfl rfl HB.out HO.out hA2 hBut); clear hA2 hBut a0 a1 a2 a3 a4; obtain ⟨a0, a1, a2, a3, a4⟩ := HP.out.inn.five)
        go_at_call 31
        refine (CK.out _ ((H1.out.below HP.out.below (Nat.le_refl _)).mono (Nat.le_refl _) HP.out.below.size)).mono ?_
        rintro e w3 ⟨rfl, hB3⟩
        have HP3 := Lib.hid (HP.out.keep hB3)
        clear hB3 a0 a1 a2 a3 a4
        obtain ⟨a0, a1, a2, a3, a4⟩ := HP3.out.inn.five
        obtain ⟨c0, c1, c2, c3, c4⟩ := HP3.out.cl.five
        have HZ := Lib.hid HP3.out.out
        go_wp2_with (refine wpList_storeG rfl (.tmp 8) (.tmp 50) rfl (w.heap.size + 1) R C r k A' n c' rfl rfl _ HZ.out rfl ?_; intro w9 hA9 hBut9)
        obtain ⟨d0, d1, d2, d3, d4⟩ := hA9.five
        obtain ⟨f1, f2⟩ := HP3.out.done hBut9
        refine bodyPost_ret (v := .agg #[.int .i64 R, .int .i64 C, .slice A' n c', .int .i64 r, .int .i64 k]) (by simp [results, Try.results19, go_sem, d0, d1, d2, d3, d4]) rfl ⟨A', c', rfl, ?_, f2⟩
        rw [putC_no (by rw [PO.out]; rfl)]; exact f1
      · skip
        cases b4
        · skip
          go_enter Try.func19, Try.ntmps19
          go_wp2_with fail
          go_at_call 14
          refine (CC.out _ ((H1.out.below (below2 w _ _ _ _) (Nat.le_refl _)).mono (Nat.le_refl _) (by simp; omega))).mono ?_
          rintro e w1 ⟨A', c', rfl, hO, hB⟩
          have HO := Lib.hid hO
          have HB := Lib.hid hB
          have HN := Lib.hid (At.new w1 24 #[.int .i64 0, .int .i64 0, .slice none 0 0, .int .i64 0, .int .i64 0])
          have hz1 := (fresh HB.out).2.2.2
          obtain ⟨a0, a1, a2, a3, a4⟩ := ((fresh HB.out).1.alloc (.cells #[.int .i64 0, .int .i64 0, .slice none 0 0, .int .i64 0, .int .i64 0] 24)).five
          clear hO hB
          go_wp2_with (refine wpList_storeG rfl (.tmp 9) (.tmp 11) rfl w1.heap.size R C r k A' n c' rfl rfl _ HN.out rfl ?_; intro w2 hA2 hBut; have HP := Lib.hid (PutAt.mk' rfl rfl HB.out HO.out hA2 hBut); clear hA2 hBut a0 a1 a2 a3 a4; obtain ⟨a0, a1, a2, a3, a4⟩ := HP.out.inn.five)
          go_at_call 31
          refine (CK.out _ ((H1.out.below HP.out.below (Nat.le_refl _)).mono (Nat.le_refl _) HP.out.below.size)).mono ?_
          rintro e w3 ⟨rfl, hB3⟩
          have HP3 := Lib.hid (HP.out.keep hB3)
          clear hB3 a0 a1 a2 a3 a4
          obtain ⟨a0, a1, a2, a3, a4⟩ := HP3.out.inn.five
          obtain ⟨c0, c1, c2, c3, c4⟩ := HP3.out.cl.five
          have HZ := Lib.hid HP3.out.out
          go_wp2_with (refine wpList_storeG rfl (.tmp 8) (.tmp 50) rfl (w.heap.size + 1) R C r k A' n c' rfl rfl _ HZ.out rfl ?_; intro w9 hA9 hBut9)
          obtain ⟨d0, d1, d2, d3, d4⟩ := hA9.five
          obtain ⟨f1, f2⟩ := HP3.out.done hBut9
          refine bodyPost_ret (v := .agg #[.int .i64 R, .int .i64 C, .slice A' n c', .int .i64 r, .int .i64 k]) (by simp [results, Try.results19, go_sem, d0, d1, d2, d3, d4]) rfl ⟨A', c', rfl, ?_, f2⟩
          rw [putC_no (by rw [PO.out]; rfl)]; exact f1
        · skip
          cases b5
          · skip
            go_enter Try.func19, Try.ntmps19
            go_wp2_with fail
            go_at_call 14
            refine (CC.out _ ((H1.out.below (below2 w _ _ _ _) (Nat.le_refl _)).mono (Nat.le_refl _) (by simp; omega))).mono ?_
            rintro e w1 ⟨A', c', rfl, hO, hB⟩
            have HO := Lib.hid hO
            have HB := Lib.hid hB
            have HN := Lib.hid (At.new w1 24 #[.int .i64 0, .int .i64 0, .slice none 0 0, .int .i64 0, .int .i64 0])
            have hz1 := (fresh HB.out).2.2.2
            obtain ⟨a0, a1, a2, a3, a4⟩ := ((fresh HB.out).1.alloc (.cells #[.int .i64 0, .int .i64 0, .slice none 0 0, .int .i64 0, .int .i64 0] 24)).five
            clear hO hB
            go_wp2_with (refine wpList_storeG rfl (.tmp 9) (.tmp 11) rfl w1.heap.size R C r k A' n c' rfl rfl _ HN.out rfl ?_; intro w2 hA2 hBut; have HP := Lib.hid (PutAt.mk' rfl rfl HB.out HO.out hA2 hBut); clear hA2 hBut a0 a1 a2 a3 a4; obtain ⟨a0, a1, a2, a3, a4⟩ := HP.out.inn.five)
            go_at_call 31
            refine (CK.out _ ((H1.out.below HP.out.below (Nat.le_refl _)).mono (Nat.le_refl _) HP.out.below.size)).mono ?_
            rintro e w3 ⟨rfl, hB3⟩
            have HP3 := Lib.hid (HP.out.keep hB3)
            clear hB3 a0 a1 a2 a3 a4
            obtain ⟨a0, a1, a2, a3, a4⟩ := HP3.out.inn.five
            obtain ⟨c0, c1, c2, c3, c4⟩ := HP3.out.cl.five
            have HZ := Lib.hid HP3.out.out
            go_wp2_with (refine wpList_storeG rfl (.tmp 8) (.tmp 50) rfl (w.heap.size + 1) R C r k A' n c' rfl rfl _ HZ.out rfl ?_; intro w9 hA9 hBut9)
            obtain ⟨d0, d1, d2, d3, d4⟩ := hA9.five
            obtain ⟨f1, f2⟩ := HP3.out.done hBut9
            refine bodyPost_ret (v := .agg #[.int .i64 R, .int .i64 C, .slice A' n c', .int .i64 r, .int .i64 k]) (by simp [results, Try.results19, go_sem, d0, d1, d2, d3, d4]) rfl ⟨A', c', rfl, ?_, f2⟩
            rw [putC_no (by rw [PO.out]; rfl)]; exact f1
          · skip
            cases b6
            · skip
              go_enter Try.func19, Try.ntmps19
              go_wp2_with fail
              go_at_call 14
              refine (CC.out _ ((H1.out.below (below2 w _ _ _ _) (Nat.le_refl _)).mono (Nat.le_refl _) (by simp; omega))).mono ?_
              rintro e w1 ⟨A', c', rfl, hO, hB⟩
              have HO := Lib.hid hO
              have HB := Lib.hid hB
              have HN := Lib.hid (At.new w1 24 #[.int .i64 0, .int .i64 0, .slice none 0 0, .int .i64 0, .int .i64 0])
              have hz1 := (fresh HB.out).2.2.2
              obtain ⟨a0, a1, a2, a3, a4⟩ := ((fresh HB.out).1.alloc (.cells #[.int .i64 0, .int .i64 0, .slice none 0 0, .int .i64 0, .int .i64 0] 24)).five
              clear hO hB
              go_wp2_with (refine wpList_storeG rfl (.tmp 9) (.tmp 11) rfl w1.heap.size R C r k A' n c' rfl rfl _ HN.out rfl ?_; intro w2 hA2 hBut; have HP := Lib.hid (PutAt.mk' rfl rfl HB.out HO.out hA2 hBut); clear hA2 hBut a0 a1 a2 a3 a4; obtain ⟨a0, a1, a2, a3, a4⟩ := HP.out.inn.five)
              go_at_call 31
              refine (CK.out _ ((H1.out.below HP.out.below (Nat.le_refl _)).mono (Nat.le_refl _) HP.out.below.size)).mono ?_
              rintro e w3 ⟨rfl, hB3⟩
              have HP3 := Lib.hid (HP.out.keep hB3)
              clear hB3 a0 a1 a2 a3 a4
              obtain ⟨a0, a1, a2, a3, a4⟩ := HP3.out.inn.five
              obtain ⟨c0, c1, c2, c3, c4⟩ := HP3.out.cl.five
              have HZ := Lib.hid HP3.out.out
              go_wp2_with (refine wpList_storeG rfl (.tmp 8) (.tmp 50) rfl (w.heap.size + 1) R C r k A' n c' rfl rfl _ HZ.out rfl ?_; intro w9 hA9 hBut9)
              obtain ⟨d0, d1, d2, d3, d4⟩ := hA9.five
              obtain ⟨f1, f2⟩ := HP3.out.done hBut9
              refine bodyPost_ret (v := .agg #[.int .i64 R, .int .i64 C, .slice A' n c', .int .i64 r, .int .i64 k]) (by simp [results, Try.results19, go_sem, d0, d1, d2, d3, d4]) rfl ⟨A', c', rfl, ?_, f2⟩
              rw [putC_no (by rw [PO.out]; rfl)]; exact f1
            · skip
              cases b7
              · skip
                go_enter Try.func19, Try.ntmps19
                go_wp2_with fail
                go_at_call 14
                refine (CC.out _ ((H1.out.below (below2 w _ _ _ _) (Nat.le_refl _)).mono (Nat.le_refl _) (by simp; omega))).mono ?_
                rintro e w1 ⟨A', c', rfl, hO, hB⟩
                have HO := Lib.hid hO
                have HB := Lib.hid hB
                have HN := Lib.hid (At.new w1 24 #[.int .i64 0, .int .i64 0, .slice none 0 0, .int .i64 0, .int .i64 0])
                have hz1 := (fresh HB.out).2.2.2
                obtain ⟨a0, a1, a2, a3, a4⟩ := ((fresh HB.out).1.alloc (.cells #[.int .i64 0, .int .i64 0, .slice none 0 0, .int .i64 0, .int .i64 0] 24)).five
                clear hO hB
                go_wp2_with (refine wpList_storeG rfl (.tmp 9) (.tmp 11) rfl w1.heap.size R C r k A' n c' rfl rfl _ HN.out rfl ?_; intro w2 hA2 hBut; have HP := Lib.hid (PutAt.mk' rfl rfl HB.out HO.out hA2 hBut); clear hA2 hBut a0 a1 a2 a3 a4; obtain ⟨a0, a1, a2, a3, a4⟩ := HP.out.inn.five)
                go_at_call 31
                refine (CK.out _ ((H1.out.below HP.out.below (Nat.le_refl _)).mono (Nat.le_refl _) HP.out.below.size)).mono ?_
                rintro e w3 ⟨rfl, hB3⟩
                have HP3 := Lib.hid (HP.out.keep hB3)
                clear hB3 a0 a1 a2 a3 a4
                obtain ⟨a0, a1, a2, a3, a4⟩ := HP3.out.inn.five
                obtain ⟨c0, c1, c2, c3, c4⟩ := HP3.out.cl.five
                have HZ := Lib.hid HP3.out.out
                go_wp2_with (refine wpList_storeG rfl (.tmp 8) (.tmp 50) rfl (w.heap.size + 1) R C r k A' n c' rfl rfl _ HZ.out rfl ?_; intro w9 hA9 hBut9)
                obtain ⟨d0, d1, d2, d3, d4⟩ := hA9.five
                obtain ⟨f1, f2⟩ := HP3.out.done hBut9
                refine bodyPost_ret (v := .agg #[.int .i64 R, .int .i64 C, .slice A' n c', .int .i64 r, .int .i64 k]) (by simp [results, Try.results19, go_sem, d0, d1, d2, d3, d4]) rfl ⟨A', c', rfl, ?_, f2⟩
                rw [putC_no (by rw [PO.out]; rfl)]; exact f1
              · skip
                have g2 := of_decide_eq_true hb2
                have g3 := of_decide_eq_true hb3
                have g4 := of_decide_eq_true hb4
                have g5 := of_decide_eq_true hb5
                have hmy := may_iff.1 K1.out
                obtain ⟨i, hi⟩ : ∃ i : Nat, row = i := ⟨row.toNat, by omega⟩
                obtain ⟨j, hj⟩ : ∃ j : Nat, col = j := ⟨col.toNat, by omega⟩
                have hin : i < n := by have := N1.out; have := hmy.2.1; dsimp only at this; omega
                obtain ⟨l, hl⟩ : ∃ l, ls[i]? = some l := ⟨_, List.getElem?_eq_getElem (by rw [← N1.out]; exact hin)⟩
                have hll : (l.length : Int) = C := may_row (g := ⟨R, C, ls, r, k⟩) K1.out hl
                have hjl : j < l.length := by omega
                obtain ⟨x, hx⟩ : ∃ x, l[j]? = some x := ⟨_, List.getElem?_eq_getElem hjl⟩
                subst hi hj
                have HL := Lib.hid hl
                have HX := Lib.hid hx
                clear hmy hll hl hx g2 g3 g4 g5
                obtain ⟨q, hq⟩ : ∃ q, q = l.length := ⟨_, rfl⟩
                rw [← hq] at hjl
                have HQ := Lib.hid hq
                clear hq
                go_enter Try.func19, Try.ntmps19
                go_wp2_with fail
                go_at_call 14
                refine (CC.out _ ((H1.out.below (below2 w _ _ _ _) (Nat.le_refl _)).mono (Nat.le_refl _) (by simp; omega))).mono ?_
                rintro e w1 ⟨A', c', rfl, hO, hB⟩
                have HO := Lib.hid hO
                have HB := Lib.hid hB
                have HN := Lib.hid (At.new w1 24 #[.int .i64 0, .int .i64 0, .slice none 0 0, .int .i64 0, .int .i64 0])
                have hz1 := (fresh HB.out).2.2.2
                obtain ⟨a0, a1, a2, a3, a4⟩ := ((fresh HB.out).1.alloc (.cells #[.int .i64 0, .int .i64 0, .slice none 0 0, .int .i64 0, .int .i64 0] 24)).five
                clear hO hB
                go_wp2_with (refine wpList_storeG rfl (.tmp 9) (.tmp 11) rfl w1.heap.size R C r k A' n c' rfl rfl _ HN.out rfl ?_; intro w2 hA2 hBut; have HP := Lib.hid (PutAt.mk' rfl rfl HB.out HO.out hA2 hBut); clear hA2 hBut a0 a1 a2 a3 a4; obtain ⟨a0, a1, a2, a3, a4⟩ := HP.out.inn.five)
                go_at_call 31
                refine (CK.out _ ((H1.out.below HP.out.below (Nat.le_refl _)).mono (Nat.le_refl _) HP.out.below.size)).mono ?_
                rintro e w3 ⟨rfl, hB3⟩
                have HP3 := Lib.hid (HP.out.keep hB3)
                clear hB3 a0 a1 a2 a3 a4
                obtain ⟨a0, a1, a2, a3, a4⟩ := HP3.out.inn.five
                obtain ⟨hb9, b9, d9, e0, e1, e2, e3, e4, HP6⟩ := HP3.out.put i j l x b HL.out HX.out
                subst e0
                rw [← HQ.out] at e1
                rw [← HT.out] at HP6
                have HP5 := Lib.hid HP6
                clear HP6
                obtain ⟨c0, c1, c2, c3, c4⟩ := HP3.out.cl.five
                have HZ := Lib.hid HP5.out.out
                have ne1 : ¬ w1.heap.size = b9 := by omega
                have ne2 : ¬ b9 = w1.heap.size := by omega
                go_wp2_with (refine wpList_storeG rfl (.tmp 8) (.tmp 50) rfl (w.heap.size + 1) R C r k _ n c' rfl rfl _ HZ.out rfl ?_; intro w9 hA9 hBut9)
                obtain ⟨d0, d1, d2, d3, d4⟩ := hA9.five
                obtain ⟨f1, f2⟩ := HP5.out.done hBut9
                refine bodyPost_ret (v := .agg #[.int .i64 R, .int .i64 C, .slice (some ⟨hb9, 0, none⟩) n c', .int .i64 r, .int .i64 k]) (by simp [results, Try.results19, go_sem, d0, d1, d2, d3, d4]) rfl ⟨_, _, rfl, ?_, f2⟩
                rw [putC_yes (by rw [PO.out]; rfl)]
                exact f1
end Go.Proofs.Ytaapoinggdempaa.grd
