/- GridsTell, walked. -/
import Derived.Test.YtaapoinggdempaaGrdTree
import Derived.Test.YtaapoinggdempaaGrdRefText
import Derived.Test.YtaapoinggdempaaGrdRefPut
namespace Go.Proofs.Ytaapoinggdempaa.grd
open Go.RowKit Go.Lib
set_option linter.unusedVariables false
set_option linter.unusedSimpArgs false
set_option linter.unnecessarySimpa false
set_option linter.unusedSectionVars false

/-- Only blocks of a stretch have turned. -/
structure Trn (lo hi : Nat) (w w' : World) : Prop where
  os : w'.os = w.os
  tape : w'.tape = w.tape
  output : w'.output = w.output
  size : w'.heap.size = w.heap.size
  block : ∀ k, k < lo ∨ hi ≤ k → w'.heap[k]? = w.heap[k]?
theorem Trn.refl (lo hi : Nat) (w : World) : Trn lo hi w w := ⟨rfl, rfl, rfl, rfl, fun _ _ => rfl⟩
theorem Trn.set {lo hi b k : Nat} {w w' : World} (h : Trn lo hi w w') (h1 : lo ≤ b) (h2 : b < hi) (u : Value) : Trn lo hi w (w'.setCell ⟨b, k, none⟩ u) :=
  ⟨h.os, h.tape, h.output, by simpa [World.setCell] using h.size, fun j hj => (Below.heap_setCell _ _ _ _ (by show j ≠ b; omega)).trans (h.block j hj)⟩
theorem Trn.below {lo hi n : Nat} {w w' : World} (h : Trn lo hi w w') (hn : n ≤ lo) : Below n w w' := ⟨h.os, h.tape, h.output, by rw [h.size]; exact Nat.le_refl _, fun k hk => h.block k (by omega)⟩
theorem Trn.at {lo hi b : Nat} {w w' : World} {t : TypeId} {cs : Array Value} (h : Trn lo hi w w') (hA : At w b t cs) (hb : b < lo ∨ hi ≤ b) : At w' b t cs := hA.same (h.block b hb)
theorem Trn.own {lo hi l2 h2 n c : Nat} {A : Option Addr} {ls : List (List UInt8)} {w w' : World} (h : Trn lo hi w w') (hO : Own w l2 h2 A n c ls) (hb : h2 ≤ lo ∨ hi ≤ l2) : Own w' l2 h2 A n c ls := hO.keep fun k a b => h.block k (by omega)
theorem Trn.gr {lo hi l2 h2 n c : Nat} {A : Option Addr} {ls : List (List UInt8)} {w w' : World} (h : Trn lo hi w w') (hO : Gr w l2 h2 A n c ls) (hb : h2 ≤ lo ∨ hi ≤ l2) : Gr w' l2 h2 A n c ls := hO.keep fun k a b => h.block k (by omega)
/-- Rows as long as others. -/
def sameLen (xs ys : List (List UInt8)) : Prop := xs.map List.length = ys.map List.length
theorem sameLen.set {xs ys : List (List UInt8)} (h : sameLen xs ys) (i k : Nat) (b : UInt8) : sameLen (setAt xs i k b) ys := by
  unfold sameLen at h ⊢
  rw [← h]
  apply List.ext_getElem?
  intro j
  rw [List.getElem?_map, List.getElem?_map, setAt_get]
  split
  · cases xs[j]? <;> simp
  · rfl
theorem sameLen.get {xs ys : List (List UInt8)} (h : sameLen xs ys) {i : Nat} {y : List UInt8} (hy : ys[i]? = some y) : ∃ x, xs[i]? = some x ∧ x.length = y.length := by
  have e := congrArg (fun l => l[i]?) h
  simp only [List.getElem?_map, hy, Option.map_some] at e
  cases hx : xs[i]? with
  | none => rw [hx] at e; cases e
  | some x => rw [hx, Option.map_some, Option.some.injEq] at e; exact ⟨x, rfl, e⟩
theorem few_same {xs ys : List (List UInt8)} (h : sameLen xs ys) (hf : few ys) : few xs := by
  have hl : xs.length = ys.length := by have := congrArg List.length h; simpa using this
  refine ⟨by rw [hl]; exact hf.1, fun l hl' => ?_⟩
  obtain ⟨i, hi⟩ := List.mem_iff_getElem?.1 hl'
  cases hy : ys[i]? with
  | none =>
    have := (List.getElem?_eq_some_iff.1 hi).1
    have := List.getElem?_eq_none_iff.1 hy
    omega
  | some y =>
    obtain ⟨x, hx, hxl⟩ := h.get hy
    rw [hi, Option.some.injEq] at hx
    rw [hx, hxl]
    exact hf.2 y (List.mem_of_getElem? hy)
theorem put_len' (g : Gd) (row col : Int) (b : UInt8) : sameLen (putC g row col b) g.cells := by
  unfold putC
  split
  · exact sameLen.set rfl _ _ _
  · rfl
set_option maxHeartbeats 16000000 in
set_option maxRecDepth 100000 in
theorem law4L (R C r k : Int) (A : Option Addr) (n c : Nat) (ls : List (List UInt8)) (row col : Int) (w : World) (h1 : Gr w 0 w.heap.size A n c ls) :
    Calls Try.prog 4 #[.agg #[.int .i64 R, .int .i64 C, .slice A n c, .int .i64 r, .int .i64 k], .int .i64 row, .int .i64 col] w fun e w' => e = .returned (.bool true) ∧ Below w.heap.size w w' := by
  have H1 := Lib.hid h1
  have N1 := Lib.hid h1.len
  have hm1 := h1.max
  have hm1' : n ≤ 9223372036854775807 := by unfold maxLen at hm1; omega
  unfold maxLen at hm1
  clear h1
  have B1 := Lib.hid ((Below.refl w.heap.size w).alloc (Nat.le_refl _) (.cells #[.int .i64 R, .int .i64 C, .slice A n c, .int .i64 r, .int .i64 k] 24))
  have N0 := Lib.hid (At.new w 24 #[.int .i64 R, .int .i64 C, .slice A n c, .int .i64 r, .int .i64 k])
  go_enter Try.func4, Try.ntmps4
  go_wp2_with fail
  go_at_call 13
  refine (much_is R C r k A n c ls _ ((H1.out.below B1.out (Nat.le_refl _)).mono (Nat.le_refl _) B1.out.size)).mono ?_
  rintro e wb ⟨o1, rfl, F1, hB1⟩
  have EG := Lib.hid (N0.out.keep hB1 N0.out.lt)
  have EE := Lib.hid (B1.out.trans (hB1.mono B1.out.size))
  have FF := Lib.hid F1
  clear F1 hB1
  cases o1
  · have HF := Lib.hid (FF.out rfl)
    clear FF
    have GX : Hid (Gr wb 0 wb.heap.size A n c ls) := Lib.hid ((H1.out.below EE.out (Nat.le_refl _)).mono (Nat.le_refl _) EE.out.size)
    obtain ⟨a0, a1, a2, a3, a4⟩ := EG.out.five
    go_upto_region 4 with fail
    obtain ⟨nb, hnb⟩ : ∃ nb, nb = decide (0 < (ls.getD 0 []).length) := ⟨_, rfl⟩
    have NB := Lib.hid hnb
    clear hnb
    go_cut [28] (fun s28 wx => s28 = .bool nb ∧ wx = wb)
    case first =>
      by_cases hn0 : n = 0
      · have q1 : decide (0 < (n : Int)) = false := by simp; omega
        have e : nb = false := by
          rw [NB.out]
          have : ls = [] := List.eq_nil_of_length_eq_zero (by rw [← N1.out]; exact hn0)
          rw [this]; rfl
        subst e
        go_wp2_with fail
        go_meet
        exact ⟨rfl, rfl⟩
      · have q1 : decide (0 < (n : Int)) = true := by simp; omega
        obtain ⟨x, hx⟩ : ∃ x, ls[0]? = some x := ⟨_, List.getElem?_eq_getElem (by have := N1.out; omega)⟩
        obtain ⟨b1, o1, B2, d1, rfl, _, _, g1, _, hxm, _⟩ := GX.out.at 0 x hx
        have HX : Hid (nb = decide (0 < x.length)) := Lib.hid (by rw [NB.out]; unfold List.getD; rw [hx]; rfl)
        rw [Nat.add_zero] at g1
        have hpos : 0 < n := by omega
        unfold maxLen at hxm
        generalize x.length = m at g1 HX hxm
        by_cases hm : 0 < m
        · have q2 : decide (0 < (m : Int)) = true := by simp; omega
          have e : nb = true := by rw [HX.out]; exact decide_eq_true hm
          subst e
          clear hx
          go_wp2_with fail
          go_meet
          exact ⟨rfl, rfl⟩
        · have q2 : decide (0 < (m : Int)) = false := by simp; omega
          have e : nb = false := by rw [HX.out]; exact decide_eq_false hm
          subst e
          clear hx
          go_wp2_with fail
          go_meet
          exact ⟨rfl, rfl⟩
    case rest =>
      obtain ⟨rfl, hw⟩ := hcut
      have hw := hw.symm
      subst hw
      go_upto_if 28 with fail
      go_cut [7] (fun s7 wx => ∃ cb : UInt8, s7 = .int .u8 (cb.toNat : Int) ∧ wx = wb)
      case first =>
        cases nb
        · go_wp2_with fail
          go_meet
          exact ⟨120, rfl, rfl⟩
        · have hpos : 0 < (ls.getD 0 []).length := of_decide_eq_true NB.out.symm
          obtain ⟨x, hx⟩ : ∃ x, ls[0]? = some x := by
            cases h : ls[0]? with
            | none => unfold List.getD at hpos; rw [h] at hpos; simp at hpos
            | some x => exact ⟨x, rfl⟩
          have hx0 : 0 < x.length := by unfold List.getD at hpos; rw [hx] at hpos; exact hpos
          obtain ⟨y, hy⟩ : ∃ y, x[0]? = some y := ⟨_, List.getElem?_eq_getElem hx0⟩
          obtain ⟨b1, o1, B2, d1, rfl, _, _, g1, _, hxm, v1⟩ := GX.out.at 0 x hx
          obtain ⟨b2, o2, rfl, _, _, g2⟩ := VRd.at v1 0 y hy
          rw [Nat.add_zero] at g1 g2
          have hn0 : 0 < n := by have := (List.getElem?_eq_some_iff.1 hx).1; have := N1.out; omega
          unfold maxLen at hxm
          generalize x.length = m at g1 hx0 hxm
          clear hx hy v1 hpos
          go_wp2_with fail
          go_meet
          refine ⟨y + 1, ?_, rfl⟩
          have e := UInt8.toNat_add y 1
          have e1 : (1 : UInt8).toNat = 1 := rfl
          have e2 : ((y.toNat : Int) + 1) % 256 = ((y + 1).toNat : Int) := by rw [e, e1]; omega
          rw [e2]
      case rest =>
        obtain ⟨cb, rfl, hw⟩ := hcut
        have hw := hw.symm
        subst hw
        obtain ⟨a0, a1, a2, a3, a4⟩ := EG.out.five
        go_wp2_with fail
        go_at_call 14
        refine (refClone_is R C r k A n c ls _ HF.out GX.out).mono ?_
        rintro e w5 ⟨Aw, cw, rfl, hOw, hB5⟩
        have OW := Lib.hid hOw
        have HB5 := Lib.hid hB5
        have HZ5 := Lib.hid (newZ w5)
        clear hOw hB5 a0 a1 a2 a3 a4
        go_wp2_with (refine wpList_storeG rfl (.tmp 8) (.tmp 37) rfl w5.heap.size R C r k Aw n cw rfl rfl _ HZ5.out rfl ?_; intro W6 hA6 hBut6)
        have L6 := Lib.hid (laid hBut6)
        have A6 := Lib.hid hA6
        have zz6 := L6.out.2
        have zz5 := HB5.out.size
        have OW6 := Lib.hid (OW.out.below L6.out.1 (Nat.le_refl _))
        have K6 : Hid (Below wb.heap.size wb W6) := Lib.hid (HB5.out.trans (L6.out.1.mono (by omega)))
        have EG6 := Lib.hid (EG.out.keep K6.out EG.out.lt)
        have EE6 : Hid (Below w.heap.size w W6) := Lib.hid (EE.out.trans (K6.out.mono EE.out.size))
        have GX6 : Hid (Gr W6 0 wb.heap.size A n c ls) := Lib.hid (GX.out.below K6.out (Nat.le_refl _))
        have GXX : Hid (Gr W6 0 W6.heap.size A n c ls) := Lib.hid (GX6.out.mono (Nat.le_refl _) (by omega))
        have hwb : wb.heap.size ≤ W6.heap.size := by omega
        have h56 : w5.heap.size < W6.heap.size := by omega
        have hgb : w.heap.size < wb.heap.size := EG.out.lt
        clear zz5 zz6 hA6 hBut6
        simp only [Act.put, List.getElem_toArray, List.getElem_cons_succ, List.getElem_cons_zero]
        have SK : Hid (∀ W, More W6.heap.size W6 W → (W.cell? ⟨w.heap.size, 0, none⟩ = some (.int .i64 R) ∧ W.cell? ⟨w.heap.size, 1, none⟩ = some (.int .i64 C) ∧ W.cell? ⟨w.heap.size, 2, none⟩ = some (.slice A n c) ∧ W.cell? ⟨w.heap.size, 3, none⟩ = some (.int .i64 r) ∧ W.cell? ⟨w.heap.size, 4, none⟩ = some (.int .i64 k)) ∧ True ∧ More W6.heap.size W6 W) := Lib.hid fun W h => ⟨(EG6.out.keep h EG6.out.lt).five, trivial, h⟩
        have P1 : Hid (∀ W, More W6.heap.size W6 W → Calls Try.prog 15 #[.agg #[.int .i64 R, .int .i64 C, .slice A n c, .int .i64 r, .int .i64 k]] W fun e w' => ∃ h, e = .returned (.agg #[.int .i64 R, .int .i64 C, .slice (some ⟨h, 0, none⟩) n n, .int .i64 r, .int .i64 k]) ∧ Own w' W.heap.size w'.heap.size (some ⟨h, 0, none⟩) n n ls ∧ Below W.heap.size W w') := Lib.hid fun W h => clone_is R C r k A n c ls W HF.out (gr_more GXX.out h)
        have P2 : Hid (∀ W, More W6.heap.size W6 W → Calls Try.prog 16 #[.agg #[.int .i64 R, .int .i64 C, .slice A n c, .int .i64 r, .int .i64 k], .int .i64 row, .int .i64 col, .int .u8 (cb.toNat : Int)] W fun e w' => ∃ h, e = .returned (.agg #[.int .i64 R, .int .i64 C, .slice (some ⟨h, 0, none⟩) n n, .int .i64 r, .int .i64 k]) ∧ Own w' W.heap.size w'.heap.size (some ⟨h, 0, none⟩) n n (putC ⟨R, C, ls, r, k⟩ row col cb) ∧ Below W.heap.size W w') := Lib.hid fun W h => put_is R C r k A n c ls row col cb W HF.out (gr_more GXX.out h)
        go_cut [9, 10] (fun s9 s10 wx => ∃ b9 b10 ha hb l1 h1 l2 h2, s9 = .pointer (some ⟨b9, 0, none⟩) ∧ s10 = .pointer (some ⟨b10, 0, none⟩) ∧ At wx b9 24 #[.int .i64 R, .int .i64 C, .slice (some ⟨ha, 0, none⟩) n n, .int .i64 r, .int .i64 k] ∧ At wx b10 24 #[.int .i64 R, .int .i64 C, .slice (some ⟨hb, 0, none⟩) n n, .int .i64 r, .int .i64 k] ∧ Own wx l1 h1 (some ⟨ha, 0, none⟩) n n ls ∧ Own wx l2 h2 (some ⟨hb, 0, none⟩) n n (putC ⟨R, C, ls, r, k⟩ row col cb) ∧ W6.heap.size ≤ l1 ∧ (h1 ≤ l2 ∧ h2 ≤ wx.heap.size) ∧ (b9 < l1 ∨ h1 ≤ b9) ∧ (b9 < l2 ∨ h2 ≤ b9) ∧ (b10 < l1 ∨ h1 ≤ b10) ∧ (b10 < l2 ∨ h2 ≤ b10) ∧ (W6.heap.size ≤ b9 ∧ W6.heap.size ≤ b10 ∧ l1 ≤ h1 ∧ l2 ≤ h2) ∧ More W6.heap.size W6 wx)
        case first =>
          refine wp_region_noPanic ?_
          refine wp_region_held_drew (S := (fun W => (W.cell? ⟨w.heap.size, 0, none⟩ = some (.int .i64 R) ∧ W.cell? ⟨w.heap.size, 1, none⟩ = some (.int .i64 C) ∧ W.cell? ⟨w.heap.size, 2, none⟩ = some (.slice A n c) ∧ W.cell? ⟨w.heap.size, 3, none⟩ = some (.int .i64 r) ∧ W.cell? ⟨w.heap.size, 4, none⟩ = some (.int .i64 k)) ∧ True ∧ More W6.heap.size W6 W)) (by kernel_rfl) (by (try dsimp only); exact SK.out _ (more_drew (Below.refl _ _))) (fun hHeld => ?_)
          have hM0 : More W6.heap.size W6 W6.drew := more_drew (Below.refl _ _)
          have hd0 : W6.heap.size ≤ W6.drew.heap.size := Nat.le_refl _
          have hd1 : W6.drew.heap.size ≤ W6.heap.size := Nat.le_refl _
          refine held.take (i := 0) (v := .agg #[.int .i64 R, .int .i64 C, .slice A n c, .int .i64 r, .int .i64 k]) rfl (by kernel_rfl) (by kernel_rfl) (by kernel_rfl) (fun _ _ _ h => h) (Or.inl ⟨by rfl, fun W hW => by (try dsimp only at hW); go_simp⟩) (by assumption) ?_
          (try simp only [Act.put, List.setIfInBounds_toArray, List.set_cons_zero, List.set_cons_succ])
          refine held.take (i := 2) (v := .agg #[.int .i64 R, .int .i64 C, .slice A n c, .int .i64 r, .int .i64 k]) rfl (by kernel_rfl) (by kernel_rfl) (by kernel_rfl) (fun _ _ _ h => h) (Or.inl ⟨by rfl, fun W hW => by (try dsimp only at hW); go_simp⟩) (by assumption) ?_
          (try simp only [Act.put, List.setIfInBounds_toArray, List.set_cons_zero, List.set_cons_succ])
          refine held.take (i := 3) (v := _) rfl (by kernel_rfl) (by kernel_rfl) (by kernel_rfl) (fun _ _ _ h => h) (Or.inl ⟨by rfl, fun _ _ => rfl⟩) (by assumption) ?_
          (try simp only [Act.put, List.setIfInBounds_toArray, List.set_cons_zero, List.set_cons_succ])
          refine held.take (i := 4) (v := _) rfl (by kernel_rfl) (by kernel_rfl) (by kernel_rfl) (fun _ _ _ h => h) (Or.inl ⟨by rfl, fun _ _ => rfl⟩) (by assumption) ?_
          (try simp only [Act.put, List.setIfInBounds_toArray, List.set_cons_zero, List.set_cons_succ])
          refine held.take (i := 5) (v := _) rfl (by kernel_rfl) (by kernel_rfl) (by kernel_rfl) (fun _ _ _ h => h) (Or.inl ⟨by rfl, fun _ _ => rfl⟩) (by assumption) ?_
          (try simp only [Act.put, List.setIfInBounds_toArray, List.set_cons_zero, List.set_cons_succ])
          refine held_three (i := 1) (j := 7) (k := 8) (by kernel_rfl) rfl rfl rfl (fun K hK => ?_) (fun K hK => ?_) (fun K hK => ?_)
          · skip
            go_simp
            go_at_call 15
            (with_reducible refine (P1.out _ hM0).mono ?_)
            rintro e v1 ⟨ha, rfl, hOa, hB⟩
            have hz1 := hB.size
            have hM1 := more_trans hM0 hB
            clear hB
            refine hK.out _ _ (by (try dsimp only); exact SK.out _ hM1) (fun hHeld => ?_)
            clear hK K
            (try simp only [Act.put, List.setIfInBounds_toArray, List.set_cons_zero, List.set_cons_succ])
            refine held_three (i := 6) (j := 7) (k := 8) (by kernel_rfl) rfl rfl rfl (fun K hK => ?_) (fun K hK => ?_) (fun K hK => ?_)
            · skip
              go_simp
              go_at_call 16
              (with_reducible refine (P2.out _ hM1).mono ?_)
              rintro e v2 ⟨hb, rfl, hOb, hB⟩
              have hz2 := hB.size
              have hM2 := more_trans hM1 hB
              have hOa := hOa.below hB (by omega)
              clear hB
              refine hK.out _ _ (by (try dsimp only); exact SK.out _ hM2) (fun hHeld => ?_)
              clear hK K
              (try simp only [Act.put, List.setIfInBounds_toArray, List.set_cons_zero, List.set_cons_succ])
              refine held_two (i := 7) (j := 8) (by kernel_rfl) rfl rfl (fun K hK => ?_) (fun K hK => ?_)
              · skip
                rw [if_pos (by rfl)]
                refine wp_allocG rfl ?_
                intro v3 hZ9 hB hz3
                have hM3 := more_trans hM2 hB
                have hOa := hOa.below hB (by omega)
                have hOb := hOb.below hB (by omega)
                have hZ9_lt := hZ9.lt
                clear hB
                refine hK.out _ _ (by (try dsimp only); exact SK.out _ hM3) (fun hHeld => ?_)
                clear hK K
                (try simp only [Act.put, List.setIfInBounds_toArray, List.set_cons_zero, List.set_cons_succ])
                refine held.only (i := 8) (by kernel_rfl) rfl (fun K hK => ?_)
                rw [if_pos (by rfl)]
                refine wp_allocG rfl ?_
                intro v4 hZ10 hB hz4
                have hM4 := more_trans hM3 hB
                have hOa := hOa.below hB (by omega)
                have hOb := hOb.below hB (by omega)
                have hZ9 := hZ9.keep hB hZ9.lt
                have hZ9_lt := hZ9.lt
                have hZ10_lt := hZ10.lt
                clear hB
                refine hK.out _ _ (by (try dsimp only); exact SK.out _ hM4) (fun hHeld => ?_)
                clear hK K
                (try simp only [Act.put, List.setIfInBounds_toArray, List.set_cons_zero, List.set_cons_succ])
                refine held.only (i := 9) (by kernel_rfl) rfl (fun K hK => ?_)
                rw [if_pos (by rfl)]
                refine wp_storeG (.tmp 9) (.tmp 39) rfl _ R C r k (some ⟨ha, 0, none⟩) n n rfl rfl _ hZ9 rfl ?_
                intro v5 hZ9' hU
                have hU5 := hU.size
                have hz5 : v4.heap.size ≤ v5.heap.size := by rw [hU5]; exact Nat.le_refl _
                have hz5' : v5.heap.size ≤ v4.heap.size := by rw [hU5]; exact Nat.le_refl _
                clear hU5
                have hM5 := more_but hM4 hU (by omega)
                have hOa := hOa.but hU (by omega)
                have hOb := hOb.but hU (by omega)
                have hZ10 := hZ10.same (hU.block _ (by omega))
                have hZ10_lt := hZ10.lt
                have hZ9'_lt := hZ9'.lt
                clear hU
                refine hK.out _ _ (by (try dsimp only); exact SK.out _ hM5) (fun hHeld => ?_)
                clear hK K
                (try simp only [Act.put, List.setIfInBounds_toArray, List.set_cons_zero, List.set_cons_succ])
                refine held.only (i := 10) (by kernel_rfl) rfl (fun K hK => ?_)
                rw [if_pos (by rfl)]
                refine wp_storeG (.tmp 10) (.tmp 44) rfl _ R C r k (some ⟨hb, 0, none⟩) n n rfl rfl _ hZ10 rfl ?_
                intro v6 hZ10' hU
                have hU6 := hU.size
                have hz6 : v5.heap.size ≤ v6.heap.size := by rw [hU6]; exact Nat.le_refl _
                have hz6' : v6.heap.size ≤ v5.heap.size := by rw [hU6]; exact Nat.le_refl _
                clear hU6
                have hM6 := more_but hM5 hU (by omega)
                have hOa := hOa.but hU (by omega)
                have hOb := hOb.but hU (by omega)
                have hZ9' := hZ9'.same (hU.block _ (by omega))
                have hZ9'_lt := hZ9'.lt
                have hZ10'_lt := hZ10'.lt
                clear hU
                refine hK.out _ _ (by (try dsimp only); exact SK.out _ hM6) (fun hHeld => ?_)
                clear hK K
                (try simp only [Act.put, List.setIfInBounds_toArray, List.set_cons_zero, List.set_cons_succ])
                refine wpAnyH_done (by kernel_rfl) ?_ _
                refine NoPanic.normal ?_
                go_wp2_with fail
                go_meet
                exact ⟨_, _, ha, hb, _, _, _, _, rfl, rfl, hZ9', hZ10', hOa, hOb, by omega, by omega, by omega, by omega, by omega, by omega, by omega, hM6⟩
              · skip
                rw [if_pos (by rfl)]
                refine wp_allocG rfl ?_
                intro v3 hZ10 hB hz3
                have hM3 := more_trans hM2 hB
                have hOa := hOa.below hB (by omega)
                have hOb := hOb.below hB (by omega)
                have hZ10_lt := hZ10.lt
                clear hB
                refine hK.out _ _ (by (try dsimp only); exact SK.out _ hM3) (fun hHeld => ?_)
                clear hK K
                (try simp only [Act.put, List.setIfInBounds_toArray, List.set_cons_zero, List.set_cons_succ])
                refine held.only (i := 7) (by kernel_rfl) rfl (fun K hK => ?_)
                rw [if_pos (by rfl)]
                refine wp_allocG rfl ?_
                intro v4 hZ9 hB hz4
                have hM4 := more_trans hM3 hB
                have hOa := hOa.below hB (by omega)
                have hOb := hOb.below hB (by omega)
                have hZ10 := hZ10.keep hB hZ10.lt
                have hZ10_lt := hZ10.lt
                have hZ9_lt := hZ9.lt
                clear hB
                refine hK.out _ _ (by (try dsimp only); exact SK.out _ hM4) (fun hHeld => ?_)
                clear hK K
                (try simp only [Act.put, List.setIfInBounds_toArray, List.set_cons_zero, List.set_cons_succ])
                refine held.only (i := 9) (by kernel_rfl) rfl (fun K hK => ?_)
                rw [if_pos (by rfl)]
                refine wp_storeG (.tmp 9) (.tmp 39) rfl _ R C r k (some ⟨ha, 0, none⟩) n n rfl rfl _ hZ9 rfl ?_
                intro v5 hZ9' hU
                have hU5 := hU.size
                have hz5 : v4.heap.size ≤ v5.heap.size := by rw [hU5]; exact Nat.le_refl _
                have hz5' : v5.heap.size ≤ v4.heap.size := by rw [hU5]; exact Nat.le_refl _
                clear hU5
                have hM5 := more_but hM4 hU (by omega)
                have hOa := hOa.but hU (by omega)
                have hOb := hOb.but hU (by omega)
                have hZ10 := hZ10.same (hU.block _ (by omega))
                have hZ10_lt := hZ10.lt
                have hZ9'_lt := hZ9'.lt
                clear hU
                refine hK.out _ _ (by (try dsimp only); exact SK.out _ hM5) (fun hHeld => ?_)
                clear hK K
                (try simp only [Act.put, List.setIfInBounds_toArray, List.set_cons_zero, List.set_cons_succ])
                refine held.only (i := 10) (by kernel_rfl) rfl (fun K hK => ?_)
                rw [if_pos (by rfl)]
                refine wp_storeG (.tmp 10) (.tmp 44) rfl _ R C r k (some ⟨hb, 0, none⟩) n n rfl rfl _ hZ10 rfl ?_
                intro v6 hZ10' hU
                have hU6 := hU.size
                have hz6 : v5.heap.size ≤ v6.heap.size := by rw [hU6]; exact Nat.le_refl _
                have hz6' : v6.heap.size ≤ v5.heap.size := by rw [hU6]; exact Nat.le_refl _
                clear hU6
                have hM6 := more_but hM5 hU (by omega)
                have hOa := hOa.but hU (by omega)
                have hOb := hOb.but hU (by omega)
                have hZ9' := hZ9'.same (hU.block _ (by omega))
                have hZ9'_lt := hZ9'.lt
                have hZ10'_lt := hZ10'.lt
                clear hU
                refine hK.out _ _ (by (try dsimp only); exact SK.out _ hM6) (fun hHeld => ?_)
                clear hK K
                (try simp only [Act.put, List.setIfInBounds_toArray, List.set_cons_zero, List.set_cons_succ])
                refine wpAnyH_done (by kernel_rfl) ?_ _
                refine NoPanic.normal ?_
                go_wp2_with fail
                go_meet
                exact ⟨_, _, ha, hb, _, _, _, _, rfl, rfl, hZ9', hZ10', hOa, hOb, by omega, by omega, by omega, by omega, by omega, by omega, by omega, hM6⟩
            · skip
              rw [if_pos (by rfl)]
              refine wp_allocG rfl ?_
              intro v2 hZ9 hB hz2
              have hM2 := more_trans hM1 hB
              have hOa := hOa.below hB (by omega)
              have hZ9_lt := hZ9.lt
              clear hB
              refine hK.out _ _ (by (try dsimp only); exact SK.out _ hM2) (fun hHeld => ?_)
              clear hK K
              (try simp only [Act.put, List.setIfInBounds_toArray, List.set_cons_zero, List.set_cons_succ])
              refine held_two (i := 6) (j := 8) (by kernel_rfl) rfl rfl (fun K hK => ?_) (fun K hK => ?_)
              · skip
                go_simp
                go_at_call 16
                (with_reducible refine (P2.out _ hM2).mono ?_)
                rintro e v3 ⟨hb, rfl, hOb, hB⟩
                have hz3 := hB.size
                have hM3 := more_trans hM2 hB
                have hOa := hOa.below hB (by omega)
                have hZ9 := hZ9.keep hB hZ9.lt
                have hZ9_lt := hZ9.lt
                clear hB
                refine hK.out _ _ (by (try dsimp only); exact SK.out _ hM3) (fun hHeld => ?_)
                clear hK K
                (try simp only [Act.put, List.setIfInBounds_toArray, List.set_cons_zero, List.set_cons_succ])
                refine held.only (i := 8) (by kernel_rfl) rfl (fun K hK => ?_)
                rw [if_pos (by rfl)]
                refine wp_allocG rfl ?_
                intro v4 hZ10 hB hz4
                have hM4 := more_trans hM3 hB
                have hOa := hOa.below hB (by omega)
                have hZ9 := hZ9.keep hB hZ9.lt
                have hOb := hOb.below hB (by omega)
                have hZ9_lt := hZ9.lt
                have hZ10_lt := hZ10.lt
                clear hB
                refine hK.out _ _ (by (try dsimp only); exact SK.out _ hM4) (fun hHeld => ?_)
                clear hK K
                (try simp only [Act.put, List.setIfInBounds_toArray, List.set_cons_zero, List.set_cons_succ])
                refine held.only (i := 9) (by kernel_rfl) rfl (fun K hK => ?_)
                rw [if_pos (by rfl)]
                refine wp_storeG (.tmp 9) (.tmp 39) rfl _ R C r k (some ⟨ha, 0, none⟩) n n rfl rfl _ hZ9 rfl ?_
                intro v5 hZ9' hU
                have hU5 := hU.size
                have hz5 : v4.heap.size ≤ v5.heap.size := by rw [hU5]; exact Nat.le_refl _
                have hz5' : v5.heap.size ≤ v4.heap.size := by rw [hU5]; exact Nat.le_refl _
                clear hU5
                have hM5 := more_but hM4 hU (by omega)
                have hOa := hOa.but hU (by omega)
                have hOb := hOb.but hU (by omega)
                have hZ10 := hZ10.same (hU.block _ (by omega))
                have hZ10_lt := hZ10.lt
                have hZ9'_lt := hZ9'.lt
                clear hU
                refine hK.out _ _ (by (try dsimp only); exact SK.out _ hM5) (fun hHeld => ?_)
                clear hK K
                (try simp only [Act.put, List.setIfInBounds_toArray, List.set_cons_zero, List.set_cons_succ])
                refine held.only (i := 10) (by kernel_rfl) rfl (fun K hK => ?_)
                rw [if_pos (by rfl)]
                refine wp_storeG (.tmp 10) (.tmp 44) rfl _ R C r k (some ⟨hb, 0, none⟩) n n rfl rfl _ hZ10 rfl ?_
                intro v6 hZ10' hU
                have hU6 := hU.size
                have hz6 : v5.heap.size ≤ v6.heap.size := by rw [hU6]; exact Nat.le_refl _
                have hz6' : v6.heap.size ≤ v5.heap.size := by rw [hU6]; exact Nat.le_refl _
                clear hU6
                have hM6 := more_but hM5 hU (by omega)
                have hOa := hOa.but hU (by omega)
                have hOb := hOb.but hU (by omega)
                have hZ9' := hZ9'.same (hU.block _ (by omega))
                have hZ9'_lt := hZ9'.lt
                have hZ10'_lt := hZ10'.lt
                clear hU
                refine hK.out _ _ (by (try dsimp only); exact SK.out _ hM6) (fun hHeld => ?_)
                clear hK K
                (try simp only [Act.put, List.setIfInBounds_toArray, List.set_cons_zero, List.set_cons_succ])
                refine wpAnyH_done (by kernel_rfl) ?_ _
                refine NoPanic.normal ?_
                go_wp2_with fail
                go_meet
                exact ⟨_, _, ha, hb, _, _, _, _, rfl, rfl, hZ9', hZ10', hOa, hOb, by omega, by omega, by omega, by omega, by omega, by omega, by omega, hM6⟩
              · skip
                rw [if_pos (by rfl)]
                refine wp_allocG rfl ?_
                intro v3 hZ10 hB hz3
                have hM3 := more_trans hM2 hB
                have hOa := hOa.below hB (by omega)
                have hZ9 := hZ9.keep hB hZ9.lt
                have hZ9_lt := hZ9.lt
                have hZ10_lt := hZ10.lt
                clear hB
                refine hK.out _ _ (by (try dsimp only); exact SK.out _ hM3) (fun hHeld => ?_)
                clear hK K
                (try simp only [Act.put, List.setIfInBounds_toArray, List.set_cons_zero, List.set_cons_succ])
                refine held.only (i := 6) (by kernel_rfl) rfl (fun K hK => ?_)
                go_simp
                go_at_call 16
                (with_reducible refine (P2.out _ hM3).mono ?_)
                rintro e v4 ⟨hb, rfl, hOb, hB⟩
                have hz4 := hB.size
                have hM4 := more_trans hM3 hB
                have hOa := hOa.below hB (by omega)
                have hZ9 := hZ9.keep hB hZ9.lt
                have hZ10 := hZ10.keep hB hZ10.lt
                have hZ9_lt := hZ9.lt
                have hZ10_lt := hZ10.lt
                clear hB
                refine hK.out _ _ (by (try dsimp only); exact SK.out _ hM4) (fun hHeld => ?_)
                clear hK K
                (try simp only [Act.put, List.setIfInBounds_toArray, List.set_cons_zero, List.set_cons_succ])
                refine held.only (i := 9) (by kernel_rfl) rfl (fun K hK => ?_)
                rw [if_pos (by rfl)]
                refine wp_storeG (.tmp 9) (.tmp 39) rfl _ R C r k (some ⟨ha, 0, none⟩) n n rfl rfl _ hZ9 rfl ?_
                intro v5 hZ9' hU
                have hU5 := hU.size
                have hz5 : v4.heap.size ≤ v5.heap.size := by rw [hU5]; exact Nat.le_refl _
                have hz5' : v5.heap.size ≤ v4.heap.size := by rw [hU5]; exact Nat.le_refl _
                clear hU5
                have hM5 := more_but hM4 hU (by omega)
                have hOa := hOa.but hU (by omega)
                have hZ10 := hZ10.same (hU.block _ (by omega))
                have hOb := hOb.but hU (by omega)
                have hZ10_lt := hZ10.lt
                have hZ9'_lt := hZ9'.lt
                clear hU
                refine hK.out _ _ (by (try dsimp only); exact SK.out _ hM5) (fun hHeld => ?_)
                clear hK K
                (try simp only [Act.put, List.setIfInBounds_toArray, List.set_cons_zero, List.set_cons_succ])
                refine held.only (i := 10) (by kernel_rfl) rfl (fun K hK => ?_)
                rw [if_pos (by rfl)]
                refine wp_storeG (.tmp 10) (.tmp 44) rfl _ R C r k (some ⟨hb, 0, none⟩) n n rfl rfl _ hZ10 rfl ?_
                intro v6 hZ10' hU
                have hU6 := hU.size
                have hz6 : v5.heap.size ≤ v6.heap.size := by rw [hU6]; exact Nat.le_refl _
                have hz6' : v6.heap.size ≤ v5.heap.size := by rw [hU6]; exact Nat.le_refl _
                clear hU6
                have hM6 := more_but hM5 hU (by omega)
                have hOa := hOa.but hU (by omega)
                have hOb := hOb.but hU (by omega)
                have hZ9' := hZ9'.same (hU.block _ (by omega))
                have hZ9'_lt := hZ9'.lt
                have hZ10'_lt := hZ10'.lt
                clear hU
                refine hK.out _ _ (by (try dsimp only); exact SK.out _ hM6) (fun hHeld => ?_)
                clear hK K
                (try simp only [Act.put, List.setIfInBounds_toArray, List.set_cons_zero, List.set_cons_succ])
                refine wpAnyH_done (by kernel_rfl) ?_ _
                refine NoPanic.normal ?_
                go_wp2_with fail
                go_meet
                exact ⟨_, _, ha, hb, _, _, _, _, rfl, rfl, hZ9', hZ10', hOa, hOb, by omega, by omega, by omega, by omega, by omega, by omega, by omega, hM6⟩
            · skip
              rw [if_pos (by rfl)]
              refine wp_allocG rfl ?_
              intro v2 hZ10 hB hz2
              have hM2 := more_trans hM1 hB
              have hOa := hOa.below hB (by omega)
              have hZ10_lt := hZ10.lt
              clear hB
              refine hK.out _ _ (by (try dsimp only); exact SK.out _ hM2) (fun hHeld => ?_)
              clear hK K
              (try simp only [Act.put, List.setIfInBounds_toArray, List.set_cons_zero, List.set_cons_succ])
              refine held_two (i := 6) (j := 7) (by kernel_rfl) rfl rfl (fun K hK => ?_) (fun K hK => ?_)
              · skip
                go_simp
                go_at_call 16
                (with_reducible refine (P2.out _ hM2).mono ?_)
                rintro e v3 ⟨hb, rfl, hOb, hB⟩
                have hz3 := hB.size
                have hM3 := more_trans hM2 hB
                have hOa := hOa.below hB (by omega)
                have hZ10 := hZ10.keep hB hZ10.lt
                have hZ10_lt := hZ10.lt
                clear hB
                refine hK.out _ _ (by (try dsimp only); exact SK.out _ hM3) (fun hHeld => ?_)
                clear hK K
                (try simp only [Act.put, List.setIfInBounds_toArray, List.set_cons_zero, List.set_cons_succ])
                refine held.only (i := 7) (by kernel_rfl) rfl (fun K hK => ?_)
                rw [if_pos (by rfl)]
                refine wp_allocG rfl ?_
                intro v4 hZ9 hB hz4
                have hM4 := more_trans hM3 hB
                have hOa := hOa.below hB (by omega)
                have hZ10 := hZ10.keep hB hZ10.lt
                have hOb := hOb.below hB (by omega)
                have hZ10_lt := hZ10.lt
                have hZ9_lt := hZ9.lt
                clear hB
                refine hK.out _ _ (by (try dsimp only); exact SK.out _ hM4) (fun hHeld => ?_)
                clear hK K
                (try simp only [Act.put, List.setIfInBounds_toArray, List.set_cons_zero, List.set_cons_succ])
                refine held.only (i := 9) (by kernel_rfl) rfl (fun K hK => ?_)
                rw [if_pos (by rfl)]
                refine wp_storeG (.tmp 9) (.tmp 39) rfl _ R C r k (some ⟨ha, 0, none⟩) n n rfl rfl _ hZ9 rfl ?_
                intro v5 hZ9' hU
                have hU5 := hU.size
                have hz5 : v4.heap.size ≤ v5.heap.size := by rw [hU5]; exact Nat.le_refl _
                have hz5' : v5.heap.size ≤ v4.heap.size := by rw [hU5]; exact Nat.le_refl _
                clear hU5
                have hM5 := more_but hM4 hU (by omega)
                have hOa := hOa.but hU (by omega)
                have hZ10 := hZ10.same (hU.block _ (by omega))
                have hOb := hOb.but hU (by omega)
                have hZ10_lt := hZ10.lt
                have hZ9'_lt := hZ9'.lt
                clear hU
                refine hK.out _ _ (by (try dsimp only); exact SK.out _ hM5) (fun hHeld => ?_)
                clear hK K
                (try simp only [Act.put, List.setIfInBounds_toArray, List.set_cons_zero, List.set_cons_succ])
                refine held.only (i := 10) (by kernel_rfl) rfl (fun K hK => ?_)
                rw [if_pos (by rfl)]
                refine wp_storeG (.tmp 10) (.tmp 44) rfl _ R C r k (some ⟨hb, 0, none⟩) n n rfl rfl _ hZ10 rfl ?_
                intro v6 hZ10' hU
                have hU6 := hU.size
                have hz6 : v5.heap.size ≤ v6.heap.size := by rw [hU6]; exact Nat.le_refl _
                have hz6' : v6.heap.size ≤ v5.heap.size := by rw [hU6]; exact Nat.le_refl _
                clear hU6
                have hM6 := more_but hM5 hU (by omega)
                have hOa := hOa.but hU (by omega)
                have hOb := hOb.but hU (by omega)
                have hZ9' := hZ9'.same (hU.block _ (by omega))
                have hZ9'_lt := hZ9'.lt
                have hZ10'_lt := hZ10'.lt
                clear hU
                refine hK.out _ _ (by (try dsimp only); exact SK.out _ hM6) (fun hHeld => ?_)
                clear hK K
                (try simp only [Act.put, List.setIfInBounds_toArray, List.set_cons_zero, List.set_cons_succ])
                refine wpAnyH_done (by kernel_rfl) ?_ _
                refine NoPanic.normal ?_
                go_wp2_with fail
                go_meet
                exact ⟨_, _, ha, hb, _, _, _, _, rfl, rfl, hZ9', hZ10', hOa, hOb, by omega, by omega, by omega, by omega, by omega, by omega, by omega, hM6⟩
              · skip
                rw [if_pos (by rfl)]
                refine wp_allocG rfl ?_
                intro v3 hZ9 hB hz3
                have hM3 := more_trans hM2 hB
                have hOa := hOa.below hB (by omega)
                have hZ10 := hZ10.keep hB hZ10.lt
                have hZ10_lt := hZ10.lt
                have hZ9_lt := hZ9.lt
                clear hB
                refine hK.out _ _ (by (try dsimp only); exact SK.out _ hM3) (fun hHeld => ?_)
                clear hK K
                (try simp only [Act.put, List.setIfInBounds_toArray, List.set_cons_zero, List.set_cons_succ])
                refine held.only (i := 6) (by kernel_rfl) rfl (fun K hK => ?_)
                go_simp
                go_at_call 16
                (with_reducible refine (P2.out _ hM3).mono ?_)
                rintro e v4 ⟨hb, rfl, hOb, hB⟩
                have hz4 := hB.size
                have hM4 := more_trans hM3 hB
                have hOa := hOa.below hB (by omega)
                have hZ10 := hZ10.keep hB hZ10.lt
                have hZ9 := hZ9.keep hB hZ9.lt
                have hZ10_lt := hZ10.lt
                have hZ9_lt := hZ9.lt
                clear hB
                refine hK.out _ _ (by (try dsimp only); exact SK.out _ hM4) (fun hHeld => ?_)
                clear hK K
                (try simp only [Act.put, List.setIfInBounds_toArray, List.set_cons_zero, List.set_cons_succ])
                refine held.only (i := 9) (by kernel_rfl) rfl (fun K hK => ?_)
                rw [if_pos (by rfl)]
                refine wp_storeG (.tmp 9) (.tmp 39) rfl _ R C r k (some ⟨ha, 0, none⟩) n n rfl rfl _ hZ9 rfl ?_
                intro v5 hZ9' hU
                have hU5 := hU.size
                have hz5 : v4.heap.size ≤ v5.heap.size := by rw [hU5]; exact Nat.le_refl _
                have hz5' : v5.heap.size ≤ v4.heap.size := by rw [hU5]; exact Nat.le_refl _
                clear hU5
                have hM5 := more_but hM4 hU (by omega)
                have hOa := hOa.but hU (by omega)
                have hZ10 := hZ10.same (hU.block _ (by omega))
                have hOb := hOb.but hU (by omega)
                have hZ10_lt := hZ10.lt
                have hZ9'_lt := hZ9'.lt
                clear hU
                refine hK.out _ _ (by (try dsimp only); exact SK.out _ hM5) (fun hHeld => ?_)
                clear hK K
                (try simp only [Act.put, List.setIfInBounds_toArray, List.set_cons_zero, List.set_cons_succ])
                refine held.only (i := 10) (by kernel_rfl) rfl (fun K hK => ?_)
                rw [if_pos (by rfl)]
                refine wp_storeG (.tmp 10) (.tmp 44) rfl _ R C r k (some ⟨hb, 0, none⟩) n n rfl rfl _ hZ10 rfl ?_
                intro v6 hZ10' hU
                have hU6 := hU.size
                have hz6 : v5.heap.size ≤ v6.heap.size := by rw [hU6]; exact Nat.le_refl _
                have hz6' : v6.heap.size ≤ v5.heap.size := by rw [hU6]; exact Nat.le_refl _
                clear hU6
                have hM6 := more_but hM5 hU (by omega)
                have hOa := hOa.but hU (by omega)
                have hOb := hOb.but hU (by omega)
                have hZ9' := hZ9'.same (hU.block _ (by omega))
                have hZ9'_lt := hZ9'.lt
                have hZ10'_lt := hZ10'.lt
                clear hU
                refine hK.out _ _ (by (try dsimp only); exact SK.out _ hM6) (fun hHeld => ?_)
                clear hK K
                (try simp only [Act.put, List.setIfInBounds_toArray, List.set_cons_zero, List.set_cons_succ])
                refine wpAnyH_done (by kernel_rfl) ?_ _
                refine NoPanic.normal ?_
                go_wp2_with fail
                go_meet
                exact ⟨_, _, ha, hb, _, _, _, _, rfl, rfl, hZ9', hZ10', hOa, hOb, by omega, by omega, by omega, by omega, by omega, by omega, by omega, hM6⟩
          · skip
            rw [if_pos (by rfl)]
            refine wp_allocG rfl ?_
            intro v1 hZ9 hB hz1
            have hM1 := more_trans hM0 hB
            have hZ9_lt := hZ9.lt
            clear hB
            refine hK.out _ _ (by (try dsimp only); exact SK.out _ hM1) (fun hHeld => ?_)
            clear hK K
            (try simp only [Act.put, List.setIfInBounds_toArray, List.set_cons_zero, List.set_cons_succ])
            refine held_two (i := 1) (j := 8) (by kernel_rfl) rfl rfl (fun K hK => ?_) (fun K hK => ?_)
            · skip
              go_simp
              go_at_call 15
              (with_reducible refine (P1.out _ hM1).mono ?_)
              rintro e v2 ⟨ha, rfl, hOa, hB⟩
              have hz2 := hB.size
              have hM2 := more_trans hM1 hB
              have hZ9 := hZ9.keep hB hZ9.lt
              have hZ9_lt := hZ9.lt
              clear hB
              refine hK.out _ _ (by (try dsimp only); exact SK.out _ hM2) (fun hHeld => ?_)
              clear hK K
              (try simp only [Act.put, List.setIfInBounds_toArray, List.set_cons_zero, List.set_cons_succ])
              refine held_two (i := 6) (j := 8) (by kernel_rfl) rfl rfl (fun K hK => ?_) (fun K hK => ?_)
              · skip
                go_simp
                go_at_call 16
                (with_reducible refine (P2.out _ hM2).mono ?_)
                rintro e v3 ⟨hb, rfl, hOb, hB⟩
                have hz3 := hB.size
                have hM3 := more_trans hM2 hB
                have hZ9 := hZ9.keep hB hZ9.lt
                have hOa := hOa.below hB (by omega)
                have hZ9_lt := hZ9.lt
                clear hB
                refine hK.out _ _ (by (try dsimp only); exact SK.out _ hM3) (fun hHeld => ?_)
                clear hK K
                (try simp only [Act.put, List.setIfInBounds_toArray, List.set_cons_zero, List.set_cons_succ])
                refine held.only (i := 8) (by kernel_rfl) rfl (fun K hK => ?_)
                rw [if_pos (by rfl)]
                refine wp_allocG rfl ?_
                intro v4 hZ10 hB hz4
                have hM4 := more_trans hM3 hB
                have hZ9 := hZ9.keep hB hZ9.lt
                have hOa := hOa.below hB (by omega)
                have hOb := hOb.below hB (by omega)
                have hZ9_lt := hZ9.lt
                have hZ10_lt := hZ10.lt
                clear hB
                refine hK.out _ _ (by (try dsimp only); exact SK.out _ hM4) (fun hHeld => ?_)
                clear hK K
                (try simp only [Act.put, List.setIfInBounds_toArray, List.set_cons_zero, List.set_cons_succ])
                refine held.only (i := 9) (by kernel_rfl) rfl (fun K hK => ?_)
                rw [if_pos (by rfl)]
                refine wp_storeG (.tmp 9) (.tmp 39) rfl _ R C r k (some ⟨ha, 0, none⟩) n n rfl rfl _ hZ9 rfl ?_
                intro v5 hZ9' hU
                have hU5 := hU.size
                have hz5 : v4.heap.size ≤ v5.heap.size := by rw [hU5]; exact Nat.le_refl _
                have hz5' : v5.heap.size ≤ v4.heap.size := by rw [hU5]; exact Nat.le_refl _
                clear hU5
                have hM5 := more_but hM4 hU (by omega)
                have hOa := hOa.but hU (by omega)
                have hOb := hOb.but hU (by omega)
                have hZ10 := hZ10.same (hU.block _ (by omega))
                have hZ10_lt := hZ10.lt
                have hZ9'_lt := hZ9'.lt
                clear hU
                refine hK.out _ _ (by (try dsimp only); exact SK.out _ hM5) (fun hHeld => ?_)
                clear hK K
                (try simp only [Act.put, List.setIfInBounds_toArray, List.set_cons_zero, List.set_cons_succ])
                refine held.only (i := 10) (by kernel_rfl) rfl (fun K hK => ?_)
                rw [if_pos (by rfl)]
                refine wp_storeG (.tmp 10) (.tmp 44) rfl _ R C r k (some ⟨hb, 0, none⟩) n n rfl rfl _ hZ10 rfl ?_
                intro v6 hZ10' hU
                have hU6 := hU.size
                have hz6 : v5.heap.size ≤ v6.heap.size := by rw [hU6]; exact Nat.le_refl _
                have hz6' : v6.heap.size ≤ v5.heap.size := by rw [hU6]; exact Nat.le_refl _
                clear hU6
                have hM6 := more_but hM5 hU (by omega)
                have hOa := hOa.but hU (by omega)
                have hOb := hOb.but hU (by omega)
                have hZ9' := hZ9'.same (hU.block _ (by omega))
                have hZ9'_lt := hZ9'.lt
                have hZ10'_lt := hZ10'.lt
                clear hU
                refine hK.out _ _ (by (try dsimp only); exact SK.out _ hM6) (fun hHeld => ?_)
                clear hK K
                (try simp only [Act.put, List.setIfInBounds_toArray, List.set_cons_zero, List.set_cons_succ])
                refine wpAnyH_done (by kernel_rfl) ?_ _
                refine NoPanic.normal ?_
                go_wp2_with fail
                go_meet
                exact ⟨_, _, ha, hb, _, _, _, _, rfl, rfl, hZ9', hZ10', hOa, hOb, by omega, by omega, by omega, by omega, by omega, by omega, by omega, hM6⟩
              · skip
                rw [if_pos (by rfl)]
                refine wp_allocG rfl ?_
                intro v3 hZ10 hB hz3
                have hM3 := more_trans hM2 hB
                have hZ9 := hZ9.keep hB hZ9.lt
                have hOa := hOa.below hB (by omega)
                have hZ9_lt := hZ9.lt
                have hZ10_lt := hZ10.lt
                clear hB
                refine hK.out _ _ (by (try dsimp only); exact SK.out _ hM3) (fun hHeld => ?_)
                clear hK K
                (try simp only [Act.put, List.setIfInBounds_toArray, List.set_cons_zero, List.set_cons_succ])
                refine held.only (i := 6) (by kernel_rfl) rfl (fun K hK => ?_)
                go_simp
                go_at_call 16
                (with_reducible refine (P2.out _ hM3).mono ?_)
                rintro e v4 ⟨hb, rfl, hOb, hB⟩
                have hz4 := hB.size
                have hM4 := more_trans hM3 hB
                have hZ9 := hZ9.keep hB hZ9.lt
                have hOa := hOa.below hB (by omega)
                have hZ10 := hZ10.keep hB hZ10.lt
                have hZ9_lt := hZ9.lt
                have hZ10_lt := hZ10.lt
                clear hB
                refine hK.out _ _ (by (try dsimp only); exact SK.out _ hM4) (fun hHeld => ?_)
                clear hK K
                (try simp only [Act.put, List.setIfInBounds_toArray, List.set_cons_zero, List.set_cons_succ])
                refine held.only (i := 9) (by kernel_rfl) rfl (fun K hK => ?_)
                rw [if_pos (by rfl)]
                refine wp_storeG (.tmp 9) (.tmp 39) rfl _ R C r k (some ⟨ha, 0, none⟩) n n rfl rfl _ hZ9 rfl ?_
                intro v5 hZ9' hU
                have hU5 := hU.size
                have hz5 : v4.heap.size ≤ v5.heap.size := by rw [hU5]; exact Nat.le_refl _
                have hz5' : v5.heap.size ≤ v4.heap.size := by rw [hU5]; exact Nat.le_refl _
                clear hU5
                have hM5 := more_but hM4 hU (by omega)
                have hOa := hOa.but hU (by omega)
                have hZ10 := hZ10.same (hU.block _ (by omega))
                have hOb := hOb.but hU (by omega)
                have hZ10_lt := hZ10.lt
                have hZ9'_lt := hZ9'.lt
                clear hU
                refine hK.out _ _ (by (try dsimp only); exact SK.out _ hM5) (fun hHeld => ?_)
                clear hK K
                (try simp only [Act.put, List.setIfInBounds_toArray, List.set_cons_zero, List.set_cons_succ])
                refine held.only (i := 10) (by kernel_rfl) rfl (fun K hK => ?_)
                rw [if_pos (by rfl)]
                refine wp_storeG (.tmp 10) (.tmp 44) rfl _ R C r k (some ⟨hb, 0, none⟩) n n rfl rfl _ hZ10 rfl ?_
                intro v6 hZ10' hU
                have hU6 := hU.size
                have hz6 : v5.heap.size ≤ v6.heap.size := by rw [hU6]; exact Nat.le_refl _
                have hz6' : v6.heap.size ≤ v5.heap.size := by rw [hU6]; exact Nat.le_refl _
                clear hU6
                have hM6 := more_but hM5 hU (by omega)
                have hOa := hOa.but hU (by omega)
                have hOb := hOb.but hU (by omega)
                have hZ9' := hZ9'.same (hU.block _ (by omega))
                have hZ9'_lt := hZ9'.lt
                have hZ10'_lt := hZ10'.lt
                clear hU
                refine hK.out _ _ (by (try dsimp only); exact SK.out _ hM6) (fun hHeld => ?_)
                clear hK K
                (try simp only [Act.put, List.setIfInBounds_toArray, List.set_cons_zero, List.set_cons_succ])
                refine wpAnyH_done (by kernel_rfl) ?_ _
                refine NoPanic.normal ?_
                go_wp2_with fail
                go_meet
                exact ⟨_, _, ha, hb, _, _, _, _, rfl, rfl, hZ9', hZ10', hOa, hOb, by omega, by omega, by omega, by omega, by omega, by omega, by omega, hM6⟩
            · skip
              rw [if_pos (by rfl)]
              refine wp_allocG rfl ?_
              intro v2 hZ10 hB hz2
              have hM2 := more_trans hM1 hB
              have hZ9 := hZ9.keep hB hZ9.lt
              have hZ9_lt := hZ9.lt
              have hZ10_lt := hZ10.lt
              clear hB
              refine hK.out _ _ (by (try dsimp only); exact SK.out _ hM2) (fun hHeld => ?_)
              clear hK K
              (try simp only [Act.put, List.setIfInBounds_toArray, List.set_cons_zero, List.set_cons_succ])
              refine held.only (i := 1) (by kernel_rfl) rfl (fun K hK => ?_)
              go_simp
              go_at_call 15
              (with_reducible refine (P1.out _ hM2).mono ?_)
              rintro e v3 ⟨ha, rfl, hOa, hB⟩
              have hz3 := hB.size
              have hM3 := more_trans hM2 hB
              have hZ9 := hZ9.keep hB hZ9.lt
              have hZ10 := hZ10.keep hB hZ10.lt
              have hZ9_lt := hZ9.lt
              have hZ10_lt := hZ10.lt
              clear hB
              refine hK.out _ _ (by (try dsimp only); exact SK.out _ hM3) (fun hHeld => ?_)
              clear hK K
              (try simp only [Act.put, List.setIfInBounds_toArray, List.set_cons_zero, List.set_cons_succ])
              refine held.only (i := 6) (by kernel_rfl) rfl (fun K hK => ?_)
              go_simp
              go_at_call 16
              (with_reducible refine (P2.out _ hM3).mono ?_)
              rintro e v4 ⟨hb, rfl, hOb, hB⟩
              have hz4 := hB.size
              have hM4 := more_trans hM3 hB
              have hZ9 := hZ9.keep hB hZ9.lt
              have hZ10 := hZ10.keep hB hZ10.lt
              have hOa := hOa.below hB (by omega)
              have hZ9_lt := hZ9.lt
              have hZ10_lt := hZ10.lt
              clear hB
              refine hK.out _ _ (by (try dsimp only); exact SK.out _ hM4) (fun hHeld => ?_)
              clear hK K
              (try simp only [Act.put, List.setIfInBounds_toArray, List.set_cons_zero, List.set_cons_succ])
              refine held.only (i := 9) (by kernel_rfl) rfl (fun K hK => ?_)
              rw [if_pos (by rfl)]
              refine wp_storeG (.tmp 9) (.tmp 39) rfl _ R C r k (some ⟨ha, 0, none⟩) n n rfl rfl _ hZ9 rfl ?_
              intro v5 hZ9' hU
              have hU5 := hU.size
              have hz5 : v4.heap.size ≤ v5.heap.size := by rw [hU5]; exact Nat.le_refl _
              have hz5' : v5.heap.size ≤ v4.heap.size := by rw [hU5]; exact Nat.le_refl _
              clear hU5
              have hM5 := more_but hM4 hU (by omega)
              have hZ10 := hZ10.same (hU.block _ (by omega))
              have hOa := hOa.but hU (by omega)
              have hOb := hOb.but hU (by omega)
              have hZ10_lt := hZ10.lt
              have hZ9'_lt := hZ9'.lt
              clear hU
              refine hK.out _ _ (by (try dsimp only); exact SK.out _ hM5) (fun hHeld => ?_)
              clear hK K
              (try simp only [Act.put, List.setIfInBounds_toArray, List.set_cons_zero, List.set_cons_succ])
              refine held.only (i := 10) (by kernel_rfl) rfl (fun K hK => ?_)
              rw [if_pos (by rfl)]
              refine wp_storeG (.tmp 10) (.tmp 44) rfl _ R C r k (some ⟨hb, 0, none⟩) n n rfl rfl _ hZ10 rfl ?_
              intro v6 hZ10' hU
              have hU6 := hU.size
              have hz6 : v5.heap.size ≤ v6.heap.size := by rw [hU6]; exact Nat.le_refl _
              have hz6' : v6.heap.size ≤ v5.heap.size := by rw [hU6]; exact Nat.le_refl _
              clear hU6
              have hM6 := more_but hM5 hU (by omega)
              have hOa := hOa.but hU (by omega)
              have hOb := hOb.but hU (by omega)
              have hZ9' := hZ9'.same (hU.block _ (by omega))
              have hZ9'_lt := hZ9'.lt
              have hZ10'_lt := hZ10'.lt
              clear hU
              refine hK.out _ _ (by (try dsimp only); exact SK.out _ hM6) (fun hHeld => ?_)
              clear hK K
              (try simp only [Act.put, List.setIfInBounds_toArray, List.set_cons_zero, List.set_cons_succ])
              refine wpAnyH_done (by kernel_rfl) ?_ _
              refine NoPanic.normal ?_
              go_wp2_with fail
              go_meet
              exact ⟨_, _, ha, hb, _, _, _, _, rfl, rfl, hZ9', hZ10', hOa, hOb, by omega, by omega, by omega, by omega, by omega, by omega, by omega, hM6⟩
          · skip
            rw [if_pos (by rfl)]
            refine wp_allocG rfl ?_
            intro v1 hZ10 hB hz1
            have hM1 := more_trans hM0 hB
            have hZ10_lt := hZ10.lt
            clear hB
            refine hK.out _ _ (by (try dsimp only); exact SK.out _ hM1) (fun hHeld => ?_)
            clear hK K
            (try simp only [Act.put, List.setIfInBounds_toArray, List.set_cons_zero, List.set_cons_succ])
            refine held_two (i := 1) (j := 7) (by kernel_rfl) rfl rfl (fun K hK => ?_) (fun K hK => ?_)
            · skip
              go_simp
              go_at_call 15
              (with_reducible refine (P1.out _ hM1).mono ?_)
              rintro e v2 ⟨ha, rfl, hOa, hB⟩
              have hz2 := hB.size
              have hM2 := more_trans hM1 hB
              have hZ10 := hZ10.keep hB hZ10.lt
              have hZ10_lt := hZ10.lt
              clear hB
              refine hK.out _ _ (by (try dsimp only); exact SK.out _ hM2) (fun hHeld => ?_)
              clear hK K
              (try simp only [Act.put, List.setIfInBounds_toArray, List.set_cons_zero, List.set_cons_succ])
              refine held_two (i := 6) (j := 7) (by kernel_rfl) rfl rfl (fun K hK => ?_) (fun K hK => ?_)
              · skip
                go_simp
                go_at_call 16
                (with_reducible refine (P2.out _ hM2).mono ?_)
                rintro e v3 ⟨hb, rfl, hOb, hB⟩
                have hz3 := hB.size
                have hM3 := more_trans hM2 hB
                have hZ10 := hZ10.keep hB hZ10.lt
                have hOa := hOa.below hB (by omega)
                have hZ10_lt := hZ10.lt
                clear hB
                refine hK.out _ _ (by (try dsimp only); exact SK.out _ hM3) (fun hHeld => ?_)
                clear hK K
                (try simp only [Act.put, List.setIfInBounds_toArray, List.set_cons_zero, List.set_cons_succ])
                refine held.only (i := 7) (by kernel_rfl) rfl (fun K hK => ?_)
                rw [if_pos (by rfl)]
                refine wp_allocG rfl ?_
                intro v4 hZ9 hB hz4
                have hM4 := more_trans hM3 hB
                have hZ10 := hZ10.keep hB hZ10.lt
                have hOa := hOa.below hB (by omega)
                have hOb := hOb.below hB (by omega)
                have hZ10_lt := hZ10.lt
                have hZ9_lt := hZ9.lt
                clear hB
                refine hK.out _ _ (by (try dsimp only); exact SK.out _ hM4) (fun hHeld => ?_)
                clear hK K
                (try simp only [Act.put, List.setIfInBounds_toArray, List.set_cons_zero, List.set_cons_succ])
                refine held.only (i := 9) (by kernel_rfl) rfl (fun K hK => ?_)
                rw [if_pos (by rfl)]
                refine wp_storeG (.tmp 9) (.tmp 39) rfl _ R C r k (some ⟨ha, 0, none⟩) n n rfl rfl _ hZ9 rfl ?_
                intro v5 hZ9' hU
                have hU5 := hU.size
                have hz5 : v4.heap.size ≤ v5.heap.size := by rw [hU5]; exact Nat.le_refl _
                have hz5' : v5.heap.size ≤ v4.heap.size := by rw [hU5]; exact Nat.le_refl _
                clear hU5
                have hM5 := more_but hM4 hU (by omega)
                have hZ10 := hZ10.same (hU.block _ (by omega))
                have hOa := hOa.but hU (by omega)
                have hOb := hOb.but hU (by omega)
                have hZ10_lt := hZ10.lt
                have hZ9'_lt := hZ9'.lt
                clear hU
                refine hK.out _ _ (by (try dsimp only); exact SK.out _ hM5) (fun hHeld => ?_)
                clear hK K
                (try simp only [Act.put, List.setIfInBounds_toArray, List.set_cons_zero, List.set_cons_succ])
                refine held.only (i := 10) (by kernel_rfl) rfl (fun K hK => ?_)
                rw [if_pos (by rfl)]
                refine wp_storeG (.tmp 10) (.tmp 44) rfl _ R C r k (some ⟨hb, 0, none⟩) n n rfl rfl _ hZ10 rfl ?_
                intro v6 hZ10' hU
                have hU6 := hU.size
                have hz6 : v5.heap.size ≤ v6.heap.size := by rw [hU6]; exact Nat.le_refl _
                have hz6' : v6.heap.size ≤ v5.heap.size := by rw [hU6]; exact Nat.le_refl _
                clear hU6
                have hM6 := more_but hM5 hU (by omega)
                have hOa := hOa.but hU (by omega)
                have hOb := hOb.but hU (by omega)
                have hZ9' := hZ9'.same (hU.block _ (by omega))
                have hZ9'_lt := hZ9'.lt
                have hZ10'_lt := hZ10'.lt
                clear hU
                refine hK.out _ _ (by (try dsimp only); exact SK.out _ hM6) (fun hHeld => ?_)
                clear hK K
                (try simp only [Act.put, List.setIfInBounds_toArray, List.set_cons_zero, List.set_cons_succ])
                refine wpAnyH_done (by kernel_rfl) ?_ _
                refine NoPanic.normal ?_
                go_wp2_with fail
                go_meet
                exact ⟨_, _, ha, hb, _, _, _, _, rfl, rfl, hZ9', hZ10', hOa, hOb, by omega, by omega, by omega, by omega, by omega, by omega, by omega, hM6⟩
              · skip
                rw [if_pos (by rfl)]
                refine wp_allocG rfl ?_
                intro v3 hZ9 hB hz3
                have hM3 := more_trans hM2 hB
                have hZ10 := hZ10.keep hB hZ10.lt
                have hOa := hOa.below hB (by omega)
                have hZ10_lt := hZ10.lt
                have hZ9_lt := hZ9.lt
                clear hB
                refine hK.out _ _ (by (try dsimp only); exact SK.out _ hM3) (fun hHeld => ?_)
                clear hK K
                (try simp only [Act.put, List.setIfInBounds_toArray, List.set_cons_zero, List.set_cons_succ])
                refine held.only (i := 6) (by kernel_rfl) rfl (fun K hK => ?_)
                go_simp
                go_at_call 16
                (with_reducible refine (P2.out _ hM3).mono ?_)
                rintro e v4 ⟨hb, rfl, hOb, hB⟩
                have hz4 := hB.size
                have hM4 := more_trans hM3 hB
                have hZ10 := hZ10.keep hB hZ10.lt
                have hOa := hOa.below hB (by omega)
                have hZ9 := hZ9.keep hB hZ9.lt
                have hZ10_lt := hZ10.lt
                have hZ9_lt := hZ9.lt
                clear hB
                refine hK.out _ _ (by (try dsimp only); exact SK.out _ hM4) (fun hHeld => ?_)
                clear hK K
                (try simp only [Act.put, List.setIfInBounds_toArray, List.set_cons_zero, List.set_cons_succ])
                refine held.only (i := 9) (by kernel_rfl) rfl (fun K hK => ?_)
                rw [if_pos (by rfl)]
                refine wp_storeG (.tmp 9) (.tmp 39) rfl _ R C r k (some ⟨ha, 0, none⟩) n n rfl rfl _ hZ9 rfl ?_
                intro v5 hZ9' hU
                have hU5 := hU.size
                have hz5 : v4.heap.size ≤ v5.heap.size := by rw [hU5]; exact Nat.le_refl _
                have hz5' : v5.heap.size ≤ v4.heap.size := by rw [hU5]; exact Nat.le_refl _
                clear hU5
                have hM5 := more_but hM4 hU (by omega)
                have hZ10 := hZ10.same (hU.block _ (by omega))
                have hOa := hOa.but hU (by omega)
                have hOb := hOb.but hU (by omega)
                have hZ10_lt := hZ10.lt
                have hZ9'_lt := hZ9'.lt
                clear hU
                refine hK.out _ _ (by (try dsimp only); exact SK.out _ hM5) (fun hHeld => ?_)
                clear hK K
                (try simp only [Act.put, List.setIfInBounds_toArray, List.set_cons_zero, List.set_cons_succ])
                refine held.only (i := 10) (by kernel_rfl) rfl (fun K hK => ?_)
                rw [if_pos (by rfl)]
                refine wp_storeG (.tmp 10) (.tmp 44) rfl _ R C r k (some ⟨hb, 0, none⟩) n n rfl rfl _ hZ10 rfl ?_
                intro v6 hZ10' hU
                have hU6 := hU.size
                have hz6 : v5.heap.size ≤ v6.heap.size := by rw [hU6]; exact Nat.le_refl _
                have hz6' : v6.heap.size ≤ v5.heap.size := by rw [hU6]; exact Nat.le_refl _
                clear hU6
                have hM6 := more_but hM5 hU (by omega)
                have hOa := hOa.but hU (by omega)
                have hOb := hOb.but hU (by omega)
                have hZ9' := hZ9'.same (hU.block _ (by omega))
                have hZ9'_lt := hZ9'.lt
                have hZ10'_lt := hZ10'.lt
                clear hU
                refine hK.out _ _ (by (try dsimp only); exact SK.out _ hM6) (fun hHeld => ?_)
                clear hK K
                (try simp only [Act.put, List.setIfInBounds_toArray, List.set_cons_zero, List.set_cons_succ])
                refine wpAnyH_done (by kernel_rfl) ?_ _
                refine NoPanic.normal ?_
                go_wp2_with fail
                go_meet
                exact ⟨_, _, ha, hb, _, _, _, _, rfl, rfl, hZ9', hZ10', hOa, hOb, by omega, by omega, by omega, by omega, by omega, by omega, by omega, hM6⟩
            · skip
              rw [if_pos (by rfl)]
              refine wp_allocG rfl ?_
              intro v2 hZ9 hB hz2
              have hM2 := more_trans hM1 hB
              have hZ10 := hZ10.keep hB hZ10.lt
              have hZ10_lt := hZ10.lt
              have hZ9_lt := hZ9.lt
              clear hB
              refine hK.out _ _ (by (try dsimp only); exact SK.out _ hM2) (fun hHeld => ?_)
              clear hK K
              (try simp only [Act.put, List.setIfInBounds_toArray, List.set_cons_zero, List.set_cons_succ])
              refine held.only (i := 1) (by kernel_rfl) rfl (fun K hK => ?_)
              go_simp
              go_at_call 15
              (with_reducible refine (P1.out _ hM2).mono ?_)
              rintro e v3 ⟨ha, rfl, hOa, hB⟩
              have hz3 := hB.size
              have hM3 := more_trans hM2 hB
              have hZ10 := hZ10.keep hB hZ10.lt
              have hZ9 := hZ9.keep hB hZ9.lt
              have hZ10_lt := hZ10.lt
              have hZ9_lt := hZ9.lt
              clear hB
              refine hK.out _ _ (by (try dsimp only); exact SK.out _ hM3) (fun hHeld => ?_)
              clear hK K
              (try simp only [Act.put, List.setIfInBounds_toArray, List.set_cons_zero, List.set_cons_succ])
              refine held.only (i := 6) (by kernel_rfl) rfl (fun K hK => ?_)
              go_simp
              go_at_call 16
              (with_reducible refine (P2.out _ hM3).mono ?_)
              rintro e v4 ⟨hb, rfl, hOb, hB⟩
              have hz4 := hB.size
              have hM4 := more_trans hM3 hB
              have hZ10 := hZ10.keep hB hZ10.lt
              have hZ9 := hZ9.keep hB hZ9.lt
              have hOa := hOa.below hB (by omega)
              have hZ10_lt := hZ10.lt
              have hZ9_lt := hZ9.lt
              clear hB
              refine hK.out _ _ (by (try dsimp only); exact SK.out _ hM4) (fun hHeld => ?_)
              clear hK K
              (try simp only [Act.put, List.setIfInBounds_toArray, List.set_cons_zero, List.set_cons_succ])
              refine held.only (i := 9) (by kernel_rfl) rfl (fun K hK => ?_)
              rw [if_pos (by rfl)]
              refine wp_storeG (.tmp 9) (.tmp 39) rfl _ R C r k (some ⟨ha, 0, none⟩) n n rfl rfl _ hZ9 rfl ?_
              intro v5 hZ9' hU
              have hU5 := hU.size
              have hz5 : v4.heap.size ≤ v5.heap.size := by rw [hU5]; exact Nat.le_refl _
              have hz5' : v5.heap.size ≤ v4.heap.size := by rw [hU5]; exact Nat.le_refl _
              clear hU5
              have hM5 := more_but hM4 hU (by omega)
              have hZ10 := hZ10.same (hU.block _ (by omega))
              have hOa := hOa.but hU (by omega)
              have hOb := hOb.but hU (by omega)
              have hZ10_lt := hZ10.lt
              have hZ9'_lt := hZ9'.lt
              clear hU
              refine hK.out _ _ (by (try dsimp only); exact SK.out _ hM5) (fun hHeld => ?_)
              clear hK K
              (try simp only [Act.put, List.setIfInBounds_toArray, List.set_cons_zero, List.set_cons_succ])
              refine held.only (i := 10) (by kernel_rfl) rfl (fun K hK => ?_)
              rw [if_pos (by rfl)]
              refine wp_storeG (.tmp 10) (.tmp 44) rfl _ R C r k (some ⟨hb, 0, none⟩) n n rfl rfl _ hZ10 rfl ?_
              intro v6 hZ10' hU
              have hU6 := hU.size
              have hz6 : v5.heap.size ≤ v6.heap.size := by rw [hU6]; exact Nat.le_refl _
              have hz6' : v6.heap.size ≤ v5.heap.size := by rw [hU6]; exact Nat.le_refl _
              clear hU6
              have hM6 := more_but hM5 hU (by omega)
              have hOa := hOa.but hU (by omega)
              have hOb := hOb.but hU (by omega)
              have hZ9' := hZ9'.same (hU.block _ (by omega))
              have hZ9'_lt := hZ9'.lt
              have hZ10'_lt := hZ10'.lt
              clear hU
              refine hK.out _ _ (by (try dsimp only); exact SK.out _ hM6) (fun hHeld => ?_)
              clear hK K
              (try simp only [Act.put, List.setIfInBounds_toArray, List.set_cons_zero, List.set_cons_succ])
              refine wpAnyH_done (by kernel_rfl) ?_ _
              refine NoPanic.normal ?_
              go_wp2_with fail
              go_meet
              exact ⟨_, _, ha, hb, _, _, _, _, rfl, rfl, hZ9', hZ10', hOa, hOb, by omega, by omega, by omega, by omega, by omega, by omega, by omega, hM6⟩
        case rest =>
          obtain ⟨b9, b10, ha, hb, l1, h1, l2, h2, rfl, rfl, hA9, hA10, hOa, hOb, q1, ⟨q2, q2'⟩, q3, q4, q5, q6, ⟨q7, q8, q9, q10⟩, hM⟩ := hcut
          obtain ⟨W1, hW1⟩ : ∃ W1, W1 = wc := ⟨_, rfl⟩
          subst hW1
          have A5 := Lib.hid (A6.out.keep hM A6.out.lt)
          have AG := Lib.hid (EG6.out.keep hM EG6.out.lt)
          have A9 := Lib.hid hA9
          have A10 := Lib.hid hA10
          have OA := Lib.hid hOa
          have OB := Lib.hid hOb
          have OW1 := Lib.hid (OW6.out.below hM (by omega))
          have G1 := Lib.hid (gr_more GXX.out hM)
          have G0 : Hid (Gr W1 0 wb.heap.size A n c ls) := Lib.hid (GX6.out.below hM (by omega))
          have E1 : Hid (Below w.heap.size w W1) := Lib.hid (EE6.out.trans (Below.mono hM EE6.out.size))
          have hW1s : W6.heap.size ≤ W1.heap.size := hM.size
          have fp : few (putC ⟨R, C, ls, r, k⟩ row col cb) := few_put ⟨R, C, ls, r, k⟩ _ _ _ HF.out
          have FP := Lib.hid fp
          have GA : Hid (Gr W1 0 W1.heap.size (some ⟨ha, 0, none⟩) n n ls) := Lib.hid ((OA.out.rows HF.out).mono (Nat.zero_le _) (by omega))
          have GB1 : Hid (Gr W1 0 W1.heap.size (some ⟨hb, 0, none⟩) n n (putC ⟨R, C, ls, r, k⟩ row col cb)) := Lib.hid ((OB.out.rows fp).mono (Nat.zero_le _) (by omega))
          have GW : Hid (Gr W1 0 W1.heap.size Aw n cw ls) := Lib.hid ((OW1.out.rows HF.out).mono (Nat.zero_le _) (by omega))
          clear hA9 hA10 hOa hOb hM fp SK P1 P2
          obtain ⟨o, ho⟩ : ∃ o, may ⟨R, C, ls, r, k⟩ = o := ⟨_, rfl⟩
          have SK : Hid (∀ W, More W1.heap.size W1 W → (W.cell? ⟨w.heap.size, 0, none⟩ = some (.int .i64 R) ∧ W.cell? ⟨w.heap.size, 1, none⟩ = some (.int .i64 C) ∧ W.cell? ⟨w.heap.size, 2, none⟩ = some (.slice A n c) ∧ W.cell? ⟨w.heap.size, 3, none⟩ = some (.int .i64 r) ∧ W.cell? ⟨w.heap.size, 4, none⟩ = some (.int .i64 k)) ∧ ((W.cell? ⟨b9, 0, none⟩ = some (.int .i64 R) ∧ W.cell? ⟨b9, 1, none⟩ = some (.int .i64 C) ∧ W.cell? ⟨b9, 2, none⟩ = some (.slice (some ⟨ha, 0, none⟩) n n) ∧ W.cell? ⟨b9, 3, none⟩ = some (.int .i64 r) ∧ W.cell? ⟨b9, 4, none⟩ = some (.int .i64 k)) ∧ (W.cell? ⟨b10, 0, none⟩ = some (.int .i64 R) ∧ W.cell? ⟨b10, 1, none⟩ = some (.int .i64 C) ∧ W.cell? ⟨b10, 2, none⟩ = some (.slice (some ⟨hb, 0, none⟩) n n) ∧ W.cell? ⟨b10, 3, none⟩ = some (.int .i64 r) ∧ W.cell? ⟨b10, 4, none⟩ = some (.int .i64 k)) ∧ (W.cell? ⟨w5.heap.size, 0, none⟩ = some (.int .i64 R) ∧ W.cell? ⟨w5.heap.size, 1, none⟩ = some (.int .i64 C) ∧ W.cell? ⟨w5.heap.size, 2, none⟩ = some (.slice Aw n cw) ∧ W.cell? ⟨w5.heap.size, 3, none⟩ = some (.int .i64 r) ∧ W.cell? ⟨w5.heap.size, 4, none⟩ = some (.int .i64 k))) ∧ More W1.heap.size W1 W) := Lib.hid fun W h => ⟨(AG.out.keep h AG.out.lt).five, ⟨(A9.out.keep h A9.out.lt).five, (A10.out.keep h A10.out.lt).five, (A5.out.keep h A5.out.lt).five⟩, h⟩
          have Q1 : Hid (∀ W, More W1.heap.size W1 W → Calls Try.prog 17 #[.agg #[.int .i64 R, .int .i64 C, .slice A n c, .int .i64 r, .int .i64 k]] W fun e w' => e = .returned (.int .i64 (errI o)) ∧ Below W.heap.size W w') := Lib.hid fun W h => check_is R C r k A n c ls o ho W HF.out (gr_more G1.out h)
          have Q2 : Hid (∀ W, More W1.heap.size W1 W → Calls Try.prog 18 #[.agg #[.int .i64 R, .int .i64 C, .slice A n c, .int .i64 r, .int .i64 k]] W fun e w' => e = .returned (.int .i64 (errI o)) ∧ Below W.heap.size W w') := Lib.hid fun W h => refCheck_is R C r k A n c ls o ho W HF.out (gr_more G1.out h)
          have Q3 : Hid (∀ W, More W1.heap.size W1 W → Calls Try.prog 11 #[.agg #[.int .i64 R, .int .i64 C, .slice (some ⟨ha, 0, none⟩) n n, .int .i64 r, .int .i64 k], .agg #[.int .i64 R, .int .i64 C, .slice Aw n cw, .int .i64 r, .int .i64 k]] W fun e w' => e = .returned (.bool true) ∧ Below W.heap.size W w') := Lib.hid fun W h => lawSame_is _ _ _ _ _ _ _ _ _ _ _ _ _ _ _ _ true (sameB_self _ _ _ _ _ _ rfl) W (gr_more GA.out h) (gr_more GW.out h)
          have Q4 : Hid (∀ W, More W1.heap.size W1 W → Calls Try.prog 19 #[.agg #[.int .i64 R, .int .i64 C, .slice A n c, .int .i64 r, .int .i64 k], .int .i64 row, .int .i64 col, .int .u8 (cb.toNat : Int)] W fun e w' => ∃ A' c', e = .returned (.agg #[.int .i64 R, .int .i64 C, .slice A' n c', .int .i64 r, .int .i64 k]) ∧ Gr w' 0 w'.heap.size A' n c' (putC ⟨R, C, ls, r, k⟩ row col cb) ∧ Below W.heap.size W w') := Lib.hid fun W h => by
            refine (refPut_is R C r k A n c ls row col cb W HF.out (gr_more G1.out h)).mono ?_
            rintro e w' ⟨A', c', rfl, hO, hB⟩
            exact ⟨A', c', rfl, (hO.rows FP.out).mono (Nat.zero_le _) (Nat.le_refl _), hB⟩
          have Q5 : Hid (∀ W A' c', More W1.heap.size W1 W → Gr W 0 W.heap.size A' n c' (putC ⟨R, C, ls, r, k⟩ row col cb) → Calls Try.prog 11 #[.agg #[.int .i64 R, .int .i64 C, .slice (some ⟨hb, 0, none⟩) n n, .int .i64 r, .int .i64 k], .agg #[.int .i64 R, .int .i64 C, .slice A' n c', .int .i64 r, .int .i64 k]] W fun e w' => e = .returned (.bool true) ∧ Below W.heap.size W w') := Lib.hid fun W A' c' h hG => lawSame_is _ _ _ _ _ _ _ _ _ _ _ _ _ _ _ _ true (sameB_self _ _ _ _ _ _ rfl) W (gr_more GB1.out h) hG
          have Q6 : Hid (∀ W, More W1.heap.size W1 W → Calls Try.prog 21 #[.agg #[.int .i64 R, .int .i64 C, .slice A n c, .int .i64 r, .int .i64 k]] W fun e w' => ∃ h, e = .returned (.slice (some ⟨h, 0, none⟩) n n) ∧ SRd w' w'.heap.size (some ⟨h, 0, none⟩) (ls.map B) ∧ Below W.heap.size W w') := Lib.hid fun W h => text_is R C r k A n c ls W HF.out (gr_more G1.out h)
          have Q7 : Hid (∀ W, More W1.heap.size W1 W → Calls Try.prog 22 #[.agg #[.int .i64 R, .int .i64 C, .slice A n c, .int .i64 r, .int .i64 k]] W fun e w' => ∃ A' c', e = .returned (.slice A' n c') ∧ SRd w' w'.heap.size A' (ls.map B) ∧ Below W.heap.size W w') := Lib.hid fun W h => refText_is R C r k A n c ls W HF.out (gr_more G1.out h)
          have Q8 : Hid (∀ W h7 A' c', SRd W W.heap.size (some ⟨h7, 0, none⟩) (ls.map B) → SRd W W.heap.size A' (ls.map B) → Calls Try.prog 20 #[.slice (some ⟨h7, 0, none⟩) n n, .slice A' n c'] W fun e w' => e = .returned (.bool true) ∧ Below W.heap.size W w') := Lib.hid fun W h7 A' c' k1 k2 => by
            refine (same12 _ A' n c' W.heap.size n n (ls.map B) (ls.map B) W (by rw [List.length_map]; exact N1.out) (by rw [List.length_map]; exact N1.out) hm1' hm1' k1 k2).mono ?_
            rintro e w' ⟨rfl, q, rfl⟩
            exact ⟨by rw [decide_eq_true rfl], below_drewN (Below.refl _ _) _⟩
          have M0 : More W1.heap.size W1 W1 := Below.refl _ _
          have S0 := SK.out W1 M0
          have S0' := SK.out W1.drew (more_drew M0)
          clear ho
          have er1 : errI true = 0 := rfl
          have er2 : errI false = 2 := rfl
          go_wp2_with fail
          go_cut [73] (fun s73 wx => s73 = .bool false ∧ More W1.heap.size W1 wx)
          case first =>
            cases o
            all_goals
              first | rw [er1] at Q1 Q2 | rw [er2] at Q1 Q2
              clear er1 er2
              go_region_held3 (fun W => (W.cell? ⟨w.heap.size, 0, none⟩ = some (.int .i64 R) ∧ W.cell? ⟨w.heap.size, 1, none⟩ = some (.int .i64 C) ∧ W.cell? ⟨w.heap.size, 2, none⟩ = some (.slice A n c) ∧ W.cell? ⟨w.heap.size, 3, none⟩ = some (.int .i64 r) ∧ W.cell? ⟨w.heap.size, 4, none⟩ = some (.int .i64 k)) ∧ ((W.cell? ⟨b9, 0, none⟩ = some (.int .i64 R) ∧ W.cell? ⟨b9, 1, none⟩ = some (.int .i64 C) ∧ W.cell? ⟨b9, 2, none⟩ = some (.slice (some ⟨ha, 0, none⟩) n n) ∧ W.cell? ⟨b9, 3, none⟩ = some (.int .i64 r) ∧ W.cell? ⟨b9, 4, none⟩ = some (.int .i64 k)) ∧ (W.cell? ⟨b10, 0, none⟩ = some (.int .i64 R) ∧ W.cell? ⟨b10, 1, none⟩ = some (.int .i64 C) ∧ W.cell? ⟨b10, 2, none⟩ = some (.slice (some ⟨hb, 0, none⟩) n n) ∧ W.cell? ⟨b10, 3, none⟩ = some (.int .i64 r) ∧ W.cell? ⟨b10, 4, none⟩ = some (.int .i64 k)) ∧ (W.cell? ⟨w5.heap.size, 0, none⟩ = some (.int .i64 R) ∧ W.cell? ⟨w5.heap.size, 1, none⟩ = some (.int .i64 C) ∧ W.cell? ⟨w5.heap.size, 2, none⟩ = some (.slice Aw n cw) ∧ W.cell? ⟨w5.heap.size, 3, none⟩ = some (.int .i64 r) ∧ W.cell? ⟨w5.heap.size, 4, none⟩ = some (.int .i64 k))) ∧ More W1.heap.size W1 W)
                (first | assumption | exact SK.out _ (by assumption))
                (first
                  | (go_at_call 17; (with_reducible refine (Q1.out _ (and_more (by assumption))).mono ?_); rintro e w' ⟨rfl, hBt⟩; have hM := more_trans (and_more (by assumption)) hBt)
                  | (go_at_call 18; (with_reducible refine (Q2.out _ (and_more (by assumption))).mono ?_); rintro e w' ⟨rfl, hBt⟩; have hM := more_trans (and_more (by assumption)) hBt)
                  | (go_at_call 11; (with_reducible refine (Q3.out _ (and_more (by assumption))).mono ?_); rintro e w' ⟨rfl, hBt⟩; have hM := more_trans (and_more (by assumption)) hBt)
                  | (go_at_call 19; (with_reducible refine (Q4.out _ (and_more (by assumption))).mono ?_); rintro e w' ⟨Ap, cp, rfl, hGp, hBt⟩; have hM := more_trans (and_more (by assumption)) hBt)
                  | (go_at_call 11; (with_reducible refine (Q5.out _ _ _ (and_more (by assumption)) hGp).mono ?_); rintro e w' ⟨rfl, hBt⟩; have hM := more_trans (and_more (by assumption)) hBt)
                  | (go_at_call 21; (with_reducible refine (Q6.out _ (and_more (by assumption))).mono ?_); rintro e w' ⟨h7, rfl, hT7, hBt⟩; have hM := more_trans (and_more (by assumption)) hBt)
                  | (go_at_call 22; (with_reducible refine (Q7.out _ (and_more (by assumption))).mono ?_); rintro e w' ⟨A8, c8, rfl, hT8, hBt⟩; have hT7 := (hT7.below hBt).more hBt.size; have hM := more_trans (and_more (by assumption)) hBt)
                  | (go_at_call 20; (with_reducible refine (Q8.out _ _ _ _ hT7 hT8).mono ?_); rintro e w' ⟨rfl, hBt⟩; have hM := more_trans (and_more (by assumption)) hBt)
                  | fail "NONE")
              all_goals
                go_wp2_with fail
                go_meet
                exact ⟨rfl, and_more (by assumption)⟩
          case rest =>
            obtain ⟨rfl, hM⟩ := hcut
            obtain ⟨W2, hW2⟩ : ∃ W2, W2 = wc := ⟨_, rfl⟩
            subst hW2
            clear Q1 Q2 Q3 Q4 Q5 Q6 Q7 Q8 SK S0 S0' M0 er1 er2 GA GB1 GW
            have A5 := Lib.hid (A5.out.keep hM A5.out.lt)
            have AG := Lib.hid (AG.out.keep hM AG.out.lt)
            have A9 := Lib.hid (A9.out.keep hM A9.out.lt)
            have A10 := Lib.hid (A10.out.keep hM A10.out.lt)
            have OA := Lib.hid (OA.out.below hM (by omega))
            have OB := Lib.hid (OB.out.below hM (by omega))
            have OW1 := Lib.hid (OW1.out.below hM (by omega))
            have G0 : Hid (Gr W2 0 wb.heap.size A n c ls) := Lib.hid (G0.out.below hM (by omega))
            have E1 : Hid (Below w.heap.size w W2) := Lib.hid (E1.out.trans (Below.mono hM E1.out.size))
            have hW2s : W1.heap.size ≤ W2.heap.size := hM.size
            clear hM G1
            go_wp2
            go_loopg [11, 12] n (fun g s11 s12 wr => ∃ (j : Nat) (xs : List (List UInt8)), j ≤ n ∧ n - j ≤ g ∧ s11 = .int .i64 j ∧ Trn l1 h1 W2 wr ∧ Own wr l1 h1 (some ⟨ha, 0, none⟩) n n xs ∧ Hid (sameLen xs ls))
            case atStart => exact ⟨0, ls, Nat.zero_le _, by omega, rfl, Trn.refl _ _ _, OA.out, Lib.hid rfl⟩
            case round =>
              obtain ⟨j, xs, hj, hg, rfl, hT, hO, HL⟩ := hrel
              have b2 : wr.cell? ⟨b9, 2, none⟩ = some (.slice (some ⟨ha, 0, none⟩) n n) := (hT.at A9.out (by omega)).cell 2
              have TT := Lib.hid hT
              have OO := Lib.hid hO
              clear hT hO
              by_cases hlt : j < n
              · obtain ⟨W3, hW3⟩ : ∃ W3, W3 = wr := ⟨_, rfl⟩
                subst hW3
                obtain ⟨y, hy⟩ : ∃ y, ls[j]? = some y := ⟨_, List.getElem?_eq_getElem (by rw [← N1.out]; exact hlt)⟩
                have hyl : y.length ≤ 20000 := HF.out.2 y (List.mem_of_getElem? hy)
                obtain ⟨m, hm⟩ : ∃ m, m = y.length := ⟨_, rfl⟩
                rw [← hm] at hyl
                have HM := Lib.hid hm
                have HY := Lib.hid hy
                clear hm hy
                go_wp2
                go_loopg [12] m (fun g s12 w4 => ∃ (q : Nat) (xs : List (List UInt8)), q ≤ m ∧ m - q ≤ g ∧ s12 = .int .i64 q ∧ Trn l1 h1 W2 w4 ∧ Own w4 l1 h1 (some ⟨ha, 0, none⟩) n n xs ∧ Hid (sameLen xs ls))
                case atStart => exact ⟨0, xs, Nat.zero_le _, by omega, rfl, TT.out, OO.out, HL⟩
                case round =>
                  clear b2 TT OO HL
                  obtain ⟨q, xs, hq, hg2, rfl, hT, hO, HL⟩ := hrel
                  have b2 : wr.cell? ⟨b9, 2, none⟩ = some (.slice (some ⟨ha, 0, none⟩) n n) := (hT.at A9.out (by omega)).cell 2
                  obtain ⟨x, hx, hxl⟩ := HL.out.get HY.out
                  rw [← HM.out] at hxl
                  have HXL := Lib.hid hxl
                  by_cases hqt : q < m
                  · obtain ⟨z, hz⟩ : ∃ z, x[q]? = some z := ⟨_, List.getElem?_eq_getElem (by omega)⟩
                    obtain ⟨hh, bb, dd, e0, g1, g2, g3, p1, p2, p3, p4, hset⟩ := hO.spot j q x z hx hz
                    injection e0 with e0
                    injection e0 with e0 _
                    subst e0
                    rw [hxl] at g1
                    have NO : Hid (Own (wr.setCell ⟨bb, q, none⟩ (.int .u8 1)) l1 h1 (some ⟨ha, 0, none⟩) n n (setAt xs j q 1)) := Lib.hid (hset 1)
                    have NT : Hid (Trn l1 h1 W2 (wr.setCell ⟨bb, q, none⟩ (.int .u8 1))) := Lib.hid (hT.set p1 p2 _)
                    have NL : Hid (sameLen (setAt xs j q 1) ls) := Lib.hid (HL.out.set j q 1)
                    clear hx hz hxl hO hT hset HL p1 p2 p3 p4
                    go_wp2
                    go_roundg (m - (q + 1))
                    case measure => omega
                    case rel => exact ⟨q + 1, _, by omega, by omega, by go_num, NT.out, NO.out, NL⟩
                  · have hqm : q = m := by omega
                    obtain ⟨B2, d2, g1, g0⟩ : ∃ B2 d2, wr.cell? ⟨ha, j, none⟩ = some (.slice B2 m d2) ∧ True := by
                      obtain ⟨b3, o3, B3, d3, e3, _, _, g3, _⟩ := (hO.rows (few_same HL.out HF.out)).at j x hx
                      injection e3 with e3
                      injection e3 with e3 e4
                      subst e3 e4
                      rw [hxl, Nat.zero_add] at g3
                      exact ⟨B3, d3, g3, trivial⟩
                    have NO := Lib.hid hO
                    have NT := Lib.hid hT
                    clear hx hxl hO hT g0
                    subst hqm
                    go_wp2
                    go_roundg (n - (j + 1))
                    case measure => omega
                    case rel => exact ⟨j + 1, xs, by omega, by omega, by go_num, NT.out, NO.out, HL⟩
              · obtain ⟨W4, hW3⟩ : ∃ W3, W3 = wr := ⟨_, rfl⟩
                subst hW3
                clear OO HL b2
                have hT := TT.out
                have A5 := Lib.hid (hT.at A5.out (by omega))
                have AG := Lib.hid (hT.at AG.out (by omega))
                have A10 := Lib.hid (hT.at A10.out (by omega))
                have OB := Lib.hid (hT.own OB.out (by omega))
                have OW1 := Lib.hid (hT.own OW1.out (by omega))
                have G0 := Lib.hid (hT.gr G0.out (by omega))
                have E1 : Hid (Below w.heap.size w W4) := Lib.hid (E1.out.trans (hT.below (by omega)))
                have b2 : W4.cell? ⟨b9, 2, none⟩ = some (.slice (some ⟨ha, 0, none⟩) n n) := (hT.at A9.out (by omega)).cell 2
                have hs4 : W2.heap.size ≤ W4.heap.size := by rw [hT.size]; exact Nat.le_refl _
                clear hT TT A9 OA
                go_wp2
                go_loopg [13, 14] n (fun g s13 s14 wr => ∃ (j : Nat) (xs : List (List UInt8)), j ≤ n ∧ n - j ≤ g ∧ s13 = .int .i64 j ∧ Trn l2 h2 W4 wr ∧ Own wr l2 h2 (some ⟨hb, 0, none⟩) n n xs ∧ Hid (sameLen xs ls))
                case atStart => exact ⟨0, (putC ⟨R, C, ls, r, k⟩ row col cb), Nat.zero_le _, by omega, rfl, Trn.refl _ _ _, OB.out, Lib.hid (put_len' ⟨R, C, ls, r, k⟩ row col cb)⟩
                case round =>
                  obtain ⟨j, xs, hj, hg, rfl, hT, hO, HL⟩ := hrel
                  have b2 : wr.cell? ⟨b10, 2, none⟩ = some (.slice (some ⟨hb, 0, none⟩) n n) := (hT.at A10.out (by omega)).cell 2
                  have TT := Lib.hid hT
                  have OO := Lib.hid hO
                  clear hT hO
                  by_cases hlt : j < n
                  · obtain ⟨W3, hW3⟩ : ∃ W3, W3 = wr := ⟨_, rfl⟩
                    subst hW3
                    obtain ⟨y, hy⟩ : ∃ y, ls[j]? = some y := ⟨_, List.getElem?_eq_getElem (by rw [← N1.out]; exact hlt)⟩
                    have hyl : y.length ≤ 20000 := HF.out.2 y (List.mem_of_getElem? hy)
                    obtain ⟨m, hm⟩ : ∃ m, m = y.length := ⟨_, rfl⟩
                    rw [← hm] at hyl
                    have HM := Lib.hid hm
                    have HY := Lib.hid hy
                    clear hm hy
                    go_wp2
                    go_loopg [14] m (fun g s14 w4 => ∃ (q : Nat) (xs : List (List UInt8)), q ≤ m ∧ m - q ≤ g ∧ s14 = .int .i64 q ∧ Trn l2 h2 W4 w4 ∧ Own w4 l2 h2 (some ⟨hb, 0, none⟩) n n xs ∧ Hid (sameLen xs ls))
                    case atStart => exact ⟨0, xs, Nat.zero_le _, by omega, rfl, TT.out, OO.out, HL⟩
                    case round =>
                      clear b2 TT OO HL
                      obtain ⟨q, xs, hq, hg2, rfl, hT, hO, HL⟩ := hrel
                      have b2 : wr.cell? ⟨b10, 2, none⟩ = some (.slice (some ⟨hb, 0, none⟩) n n) := (hT.at A10.out (by omega)).cell 2
                      obtain ⟨x, hx, hxl⟩ := HL.out.get HY.out
                      rw [← HM.out] at hxl
                      have HXL := Lib.hid hxl
                      by_cases hqt : q < m
                      · obtain ⟨z, hz⟩ : ∃ z, x[q]? = some z := ⟨_, List.getElem?_eq_getElem (by omega)⟩
                        obtain ⟨hh, bb, dd, e0, g1, g2, g3, p1, p2, p3, p4, hset⟩ := hO.spot j q x z hx hz
                        injection e0 with e0
                        injection e0 with e0 _
                        subst e0
                        rw [hxl] at g1
                        have NO : Hid (Own (wr.setCell ⟨bb, q, none⟩ (.int .u8 2)) l2 h2 (some ⟨hb, 0, none⟩) n n (setAt xs j q 2)) := Lib.hid (hset 2)
                        have NT : Hid (Trn l2 h2 W4 (wr.setCell ⟨bb, q, none⟩ (.int .u8 2))) := Lib.hid (hT.set p1 p2 _)
                        have NL : Hid (sameLen (setAt xs j q 2) ls) := Lib.hid (HL.out.set j q 2)
                        clear hx hz hxl hO hT hset HL p1 p2 p3 p4
                        go_wp2
                        go_roundg (m - (q + 1))
                        case measure => omega
                        case rel => exact ⟨q + 1, _, by omega, by omega, by go_num, NT.out, NO.out, NL⟩
                      · have hqm : q = m := by omega
                        obtain ⟨B2, d2, g1, g0⟩ : ∃ B2 d2, wr.cell? ⟨hb, j, none⟩ = some (.slice B2 m d2) ∧ True := by
                          obtain ⟨b3, o3, B3, d3, e3, _, _, g3, _⟩ := (hO.rows (few_same HL.out HF.out)).at j x hx
                          injection e3 with e3
                          injection e3 with e3 e4
                          subst e3 e4
                          rw [hxl, Nat.zero_add] at g3
                          exact ⟨B3, d3, g3, trivial⟩
                        have NO := Lib.hid hO
                        have NT := Lib.hid hT
                        clear hx hxl hO hT g0
                        subst hqm
                        go_wp2
                        go_roundg (n - (j + 1))
                        case measure => omega
                        case rel => exact ⟨j + 1, xs, by omega, by omega, by go_num, NT.out, NO.out, HL⟩
                  · obtain ⟨W5, hW3⟩ : ∃ W3, W3 = wr := ⟨_, rfl⟩
                    subst hW3
                    clear OO HL b2
                    have hT := TT.out
                    have A5 := Lib.hid (hT.at A5.out (by omega))
                    have AG := Lib.hid (hT.at AG.out (by omega))
                    have OW1 := Lib.hid (hT.own OW1.out (by omega))
                    have G0 := Lib.hid (hT.gr G0.out (by omega))
                    have E1 : Hid (Below w.heap.size w W5) := Lib.hid (E1.out.trans (hT.below (by omega)))
                    have hs5 : W4.heap.size ≤ W5.heap.size := by rw [hT.size]; exact Nat.le_refl _
                    have GA : Hid (Gr W5 0 W5.heap.size A n c ls) := Lib.hid (G0.out.mono (Nat.le_refl _) (by omega))
                    have GW : Hid (Gr W5 0 W5.heap.size Aw n cw ls) := Lib.hid ((OW1.out.rows HF.out).mono (Nat.zero_le _) (by omega))
                    have b2 : W5.cell? ⟨b10, 2, none⟩ = some (.slice (some ⟨hb, 0, none⟩) n n) := (hT.at A10.out (by omega)).cell 2
                    clear hT TT A10 OB
                    obtain ⟨a0, a1, a2, a3, a4⟩ := AG.out.five
                    obtain ⟨c0, c1, c2, c3, c4⟩ := A5.out.five
                    go_wp2_with fail
                    go_at_call 11
                    refine (lawSame_is _ _ _ _ _ _ _ _ _ _ _ _ _ _ _ _ true (sameB_self _ _ _ _ _ _ rfl) _ GA.out GW.out).mono ?_
                    rintro e w8 ⟨rfl, hB8⟩
                    have E8 : Hid (Below w.heap.size w w8) := Lib.hid (E1.out.trans (hB8.mono E1.out.size))
                    clear hB8 a0 a1 a2 a3 a4 c0 c1 c2 c3 c4
                    go_wp2_with fail
                    go_at_call 12
                    refine (does_is _).mono ?_
                    rintro e w9 ⟨rfl, hB9⟩
                    have E9 : Hid (Below w.heap.size w w9) := Lib.hid (E8.out.trans (hB9.mono E8.out.size))
                    clear hB9
                    go_wp2
                    go_ret
                    exact ⟨rfl, E9.out⟩
  · go_wp2
    go_ret
    exact ⟨rfl, EE.out⟩
end Go.Proofs.Ytaapoinggdempaa.grd
