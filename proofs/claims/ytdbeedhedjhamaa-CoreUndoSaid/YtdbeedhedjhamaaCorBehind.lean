/- Core: what comes of a moment by a splice. -/
import Derived.Test.YtdbeedhedjhamaaCorView
import Derived.BigQuiet
namespace Go.Proofs.Ytdbeedhedjhamaa.cor
open Go.RowKit Go.Lib pce sps mrk
set_option linter.unusedVariables false
set_option linter.unusedSimpArgs false
set_option linter.unnecessarySimpa false
set_option linter.unusedSectionVars false

/-- An error, and none; or what comes of it. -/
def BehSays (w : World) (G : Nat → Prop) (m : M) (t : Ct) (k : Int) (e : Ending) (w' : World) : Prop := Below w.heap.size w w' ∧
  ((¬ k = 0 ∧ e = .returned (.tuple #[.agg (moL (.pointer none) zeroM).toArray, .int .i64 k])) ∨
   (k = 0 ∧ ∃ v', e = .returned (.tuple #[.agg (moL v' (mSpl m t)).toArray, .int .i64 0]) ∧ Mo w' G v' (mSpl m t)))
theorem tab_still {w w' : World} {G : Nat → Prop} {n n3 : Nat} {v : Value} {ps : List Pc} (h : Tab w (fun b => (¬ G b ∧ b < n) ∨ n3 ≤ b) v ps) (hk : ∀ b, (b < n ∨ n3 ≤ b) → b < w.heap.size → w'.heap[b]? = w.heap[b]?) (hs : w.heap.size ≤ w'.heap.size) (hG : ∀ b, G b → b < n) (hn : n ≤ n3) : Tab w' (fun b => ¬ G b) v ps :=
  (h.keep (fun b hb hl => hk b (hb.elim (fun h => .inl h.2) .inr) hl) hs).mono fun b hb _ hg => hb.elim (fun h => h.1 hg) (fun h => by have := hG b hg; omega)
theorem mSpl_mo {w' : World} {G : Nat → Prop} {v' : Value} {m : M} {t : Ct} {ps : List Pc} (hs : stp m.L t = 0) (h0 : 0 ≤ m.c) (h1 : m.c ≤ m.L.length) (hf : Ints m.f) (hT : Tab w' (fun b => ¬ G b) v' ps) (hx : texts ps = nxt m.L t) : Mo w' G v' (mSpl m t) :=
  ⟨⟨ps, hT, hx⟩, cur_lo (stp_zero.1 hs).1, cur_hi hs h1, hf.shf⟩
set_option maxHeartbeats 4000000 in
set_option maxRecDepth 100000 in
theorem behind_is (w : World) (G : Nat → Prop) (v : Value) (m : M) (t : Ct) (F : Nat → Prop) (k : Int) (hk : splE m.L.length t.a t.d t.ins = k) (h : Mo w G v m) (hG : ∀ b, G b → b < w.heap.size) (ht : CtOk w F t) (hb : t.ins.length ≤ 10000) :
    Calls Try.prog 35 #[.agg (moL v m).toArray, .agg #[.int .i64 t.a, .int .i64 t.d, .slice t.A t.ins.length t.c]] w (BehSays w G m t k) := by
  obtain ⟨a, d, A, c, ins⟩ := t
  simp only at hk ht hb ⊢
  obtain ⟨w1, hw1⟩ : ∃ w1, w.alloc (.cells (moL v m).toArray 53) = w1 := ⟨_, rfl⟩
  obtain ⟨w2, hw2⟩ : ∃ w2, w1.alloc (.cells #[.int .i64 a, .int .i64 d, .slice A ins.length c] 24) = w2 := ⟨_, rfl⟩
  obtain ⟨w3, hw3⟩ : ∃ w3, w2.alloc (.cells (moL (.pointer none) zeroM).toArray 53) = w3 := ⟨_, rfl⟩
  have hz1 : w1.heap.size = w.heap.size + 1 := by rw [← hw1]; simp
  have hz2 : w2.heap.size = w.heap.size + 2 := by rw [← hw2]; simp [hz1]
  have hz3 : w3.heap.size = w.heap.size + 3 := by rw [← hw3]; simp [hz2]
  have hB1 : Below w.heap.size w w1 := hw1 ▸ (Below.refl _ _).alloc (Nat.le_refl _) _
  have hB2 : Below w1.heap.size w1 w2 := hw2 ▸ (Below.refl _ _).alloc (Nat.le_refl _) _
  have hB3 : Below w2.heap.size w2 w3 := hw3 ▸ (Below.refl _ _).alloc (Nat.le_refl _) _
  have hA1 : At w3 w.heap.size 53 (moL v m).toArray := by
    have : At w1 w.heap.size 53 (moL v m).toArray := hw1 ▸ At.new w _ _
    exact (this.same (hB2.block _ (by omega))).same (hB3.block _ (by omega))
  have hA2 : At w3 w1.heap.size 24 #[.int .i64 a, .int .i64 d, .slice A ins.length c] := by
    have : At w2 w1.heap.size 24 #[.int .i64 a, .int .i64 d, .slice A ins.length c] := hw2 ▸ At.new w1 _ _
    exact this.same (hB3.block _ (by omega))
  have hA3 : At w3 w2.heap.size 53 (moL (.pointer none) zeroM).toArray := hw3 ▸ At.new w2 _ _
  have hB03 : Below w.heap.size w w3 := (hB1.trans (hB2.mono hB1.size)).trans (hB3.mono (by omega))
  obtain ⟨ps, hT, hp⟩ := h.tab
  have KS := pce.splice_is w3 _ _ ps a d A ins.length c ins ht.a1 ht.a2 ht.d1 ht.d2 rfl (by omega) ht.lst.nil (ht.lst.below hB03).srd ((hT.mono (fun b hb hl => (⟨hb, hl⟩ : ¬ G b ∧ b < w.heap.size))).below hB03)
  rw [hp, hk] at KS
  have HT := Lib.hid ht
  have HM := Lib.hid h
  have HG := Lib.hid hG
  have HP := Lib.hid hp
  have HK := Lib.hid hk
  have HB03 := Lib.hid hB03
  have HZ1 := Lib.hid hz1
  have HZ2 := Lib.hid hz2
  have HZ3 := Lib.hid hz3
  have KS := Lib.hid KS
  obtain ⟨tb, rfl⟩ := h.ptr
  obtain ⟨m0, m1⟩ := mo_cells hA1
  obtain ⟨s0, s1, s2⟩ := three_at hA2
  have MK := Lib.hid hA1
  have SK := Lib.hid hA2
  have RK := Lib.hid hA3
  clear hT hp hk h hG ht hA1 hA2 hA3 hB03 hB1 hB2 hB3 hz3 hz1 hz2
  by_cases hk0 : k = 0
  · subst hk0
    go_enter Try.func35, Try.ntmps35
    go_wp2_with (first
      | (refine wpList_boxV rfl 53 _ rfl _ rfl ?_; rw [hw1]; clear hw1)
      | (refine wpList_boxV rfl 24 _ rfl _ rfl ?_; rw [hw2]; clear hw2)
      | (refine wpList_allocV rfl 53 rfl _ (zerM _) ?_; rw [hw3]; clear hw3)
      | fail "NONE")
    go_at_call 50
    refine KS.out.mono ?_
    rintro e w4 ⟨hB4, ⟨h0, _⟩ | ⟨_, v', ps', rfl, hT', hx', _⟩⟩
    · exact (h0 (by first | trivial | rfl)).elim
    have hs : stp m.L ⟨a, d, A, c, ins⟩ = 0 := stpE_pce.2 HK.out
    obtain ⟨tb', rfl⟩ : ∃ tb', v' = .pointer (some ⟨tb', 0, none⟩) := by
      obtain ⟨b, _, _, _, rfl, _⟩ := hT'
      exact ⟨b, rfl⟩
    obtain ⟨hs1, hs2, hs3, _⟩ := stp_zero.1 hs
    simp only at hs1 hs2 hs3
    have hL2 := HM.out.fine.1
    have hc0 := HM.out.c0
    have hc1 := HM.out.c1
    obtain ⟨z, hz⟩ : ∃ z, ln m.c a d ins.length = z := ⟨_, rfl⟩
    have MK4 := MK.out.same (hB4.block _ (by rw [HZ3.out]; omega))
    have SK4 := SK.out.same (hB4.block _ (by rw [HZ3.out, HZ1.out]; omega))
    have RK4 := RK.out.same (hB4.block _ (by rw [HZ3.out, HZ2.out]; omega))
    have KLn := Lib.hid (line_is m.c a d A ins.length c w4 z hz (by omega) (by omega) HT.out.a1 HT.out.a2 HT.out.d1 HT.out.d2 (by omega))
    obtain ⟨w5, hw5⟩ : ∃ w5, w4.alloc (.cells #[.int .i64 a, .int .i64 d, .slice A ins.length c] 24) = w5 := ⟨_, rfl⟩
    have hB5 : Below w4.heap.size w4 w5 := hw5 ▸ (Below.refl _ _).alloc (Nat.le_refl _) _
    rw [hw5] at KLn
    have KSh := Lib.hid (fun W => shift_is m.f a d A ins.length c W HM.out.ints HT.out.a1 HT.out.a2 HT.out.d1 HT.out.d2 (by omega))
    have hT5 := hT'.below hB5
    have hnl : (texts ps').length = (nxt m.L ⟨a, d, A, c, ins⟩).length := by rw [hx']; rfl
    have hnl2 := nxt_le hs
    obtain ⟨N, hN⟩ : ∃ N, (nxt m.L ⟨a, d, A, c, ins⟩).length = N := ⟨_, rfl⟩
    have KLe : Hid (∀ W, Below w5.heap.size w5 W → Calls Try.prog 29 #[.pointer (some ⟨tb', 0, none⟩)] W fun e w' => e = .returned (.int .i64 (N : Nat)) ∧ W = w') := Lib.hid fun W hW => by
      have := len_is W _ _ ps' (hT5.below hW)
      rw [hnl, hN] at this
      exact this
    rw [hN] at hnl2
    obtain ⟨n0, n1⟩ := mo_cells MK4
    obtain ⟨t0, t1, t2⟩ := three_at SK4
    have MK5 := MK4.same (hB5.block _ MK4.lt)
    have SK5 := SK4.same (hB5.block _ SK4.lt)
    have RK5 : Hid (∀ W, Below w5.heap.size w5 W → At W w2.heap.size 53 (moL (.pointer none) zeroM).toArray) := Lib.hid fun W hW => (RK4.same (hB5.block _ RK4.lt)).same (hW.block _ (Nat.lt_of_lt_of_le RK4.lt hB5.size))
    obtain ⟨u0, u1, u2⟩ := three_at SK5
    have SK5' : Hid (∀ W, Below w5.heap.size w5 W → At W w1.heap.size 24 #[.int .i64 a, .int .i64 d, .slice A ins.length c]) := Lib.hid fun W hW => SK5.same (hW.block _ SK5.lt)
    have KC : Hid (∀ W, Below w5.heap.size w5 W → W.cell? ⟨w1.heap.size, 0, none⟩ = some (.int .i64 a)) := Lib.hid fun W hW => (three_at (SK5.same (hW.block _ SK5.lt))).1
    have MM : Hid (∀ W, Below w5.heap.size w5 W → W.rangeAt w.heap.size 2 (arrL m.f)) := Lib.hid fun W hW => mo_marks (MK5.same (hW.block _ MK5.lt))
    have HS := Lib.hid hs
    have HT' := Lib.hid hT5
    have HX := Lib.hid hx'
    have HB := Lib.hid ((HB03.out.trans (hB4.mono HB03.out.size)).trans (hB5.mono (by have := HB03.out.size; have := hB4.size; omega)))
    have HN := Lib.hid hN
    have HZ := Lib.hid hz
    have HF : Hid (∀ w7 w8 c', Below w5.heap.size w5 w7 → Only w2.heap.size w7 w8 → c' = curN m.c ⟨a, d, A, c, ins⟩ N → BehSays w G m ⟨a, d, A, c, ins⟩ 0 (.returned (.tuple #[.agg (moL (.pointer (some ⟨tb', 0, none⟩)) ⟨nxt m.L ⟨a, d, A, c, ins⟩, c', shf m.f a d ins.length⟩).toArray, .int .i64 0])) w8) := Lib.hid fun w7 w8 c' hB7 hO8 hc' => by
      subst hc'
      refine ⟨(HB.out.trans (hB7.mono HB.out.size)).trans (hO8.below (by rw [HZ2.out]; omega)), .inr ⟨rfl, .pointer (some ⟨tb', 0, none⟩), ?_, mSpl_mo HS.out HM.out.c0 HM.out.c1 HM.out.ints (tab_still HT'.out (fun b hb hl => (hO8.block b (by have h2 := HZ2.out; have h3 := HZ3.out; omega)).trans (hB7.block b hl)) (by rw [hO8.size]; exact hB7.size) HG.out (by rw [HZ3.out]; omega)) (by rw [HX.out]; rfl)⟩⟩
      unfold mSpl
      rw [HN.out]
    have ha9 : a ≤ 2000 := by omega
    have HA := Lib.hid hs1
    have HR : Hid (Below w5.heap.size w5 w5) := Lib.hid (Below.refl _ _)
    clear hT' hx' hs hs1 hs2 hs3 hL2 hc0 hc1 hz MK4 SK4 RK4 hw5 hB5 hT5 hnl hN MK5 SK5 hB4 m0 m1 s0 s1 s2 KS
    by_cases hz0 : 0 < z
    · have dz : decide (0 < z) = true := by simpa using hz0
      rw [dz] at KLn
      have HC : Hid (z = curN m.c ⟨a, d, A, c, ins⟩ N) := Lib.hid (by unfold curN; rw [if_pos (by rw [HZ.out]; exact hz0)]; exact HZ.out.symm)
      clear hz0 dz
      go_wp2_with (first
        | (go_at_call 51; (with_reducible refine KLn.out.mono ?_); rintro e w6 ⟨rfl, rfl⟩)
        | (go_at_call 52; (with_reducible refine (KSh.out _).mono ?_); rintro e w7 ⟨rfl, hB7⟩; have RK7 := Lib.hid (RK5.out _ hB7))
        | (refine wpList_loadMk rfl _ rfl w.heap.size 2 rfl m.f (MM.out _ HR.out) ?_)
        | (refine wpList_buildV rfl 53 _ rfl #[(0, .pointer (some ⟨tb', 0, none⟩)), (1, .int .i64 z), (2, .agg (arr (shf m.f a d ins.length)))] (by simp [Act.eval]) _ (bldM (some ⟨tb', 0, none⟩) ⟨nxt m.L ⟨a, d, A, c, ins⟩, z, shf m.f a d ins.length⟩) ?_)
        | (refine wpList_storeMo rfl (.tmp 4) (.tmp 47) rfl w2.heap.size _ _ RK7.out (some ⟨tb', 0, none⟩) ⟨nxt m.L ⟨a, d, A, c, ins⟩, z, shf m.f a d ins.length⟩ rfl rfl ?_; intro w8 hA8 hO8)
        | fail "NONE")
      refine bodyPost_ret (results_V2 53 undM infM Try.results35 (by rfl) (moL_len _ _) (At.whole hA8)) (by rfl) ?_
      exact HF.out _ _ _ hB7 hO8 HC.out
    · have dz : decide (0 < z) = false := by simpa using hz0
      rw [dz] at KLn
      obtain ⟨c', hc'⟩ : ∃ c', min (a + 1) (N : Int) = c' := ⟨_, rfl⟩
      have HC : Hid (c' = curN m.c ⟨a, d, A, c, ins⟩ N) := Lib.hid (by unfold curN; rw [if_neg (by rw [HZ.out]; exact hz0)]; exact hc'.symm)
      have hw : IntKind.i64.wrap (a + 1) = a + 1 := by have := HA.out; rw [IntKind.wrap_i64]; omega
      have hmin : min (a + 1) (N : Int) = c' := hc'
      clear hz0 dz hc'
      go_wp2_with (first
        | (go_at_call 51; (with_reducible refine KLn.out.mono ?_); rintro e w6 ⟨rfl, rfl⟩)
        | fail "NONE")
      refine wp_region_noPanic ?_
      refine wp_region_held_drew (S := fun W => Below w6.heap.size w6 W) (by kernel_rfl) (by (try dsimp only); first | assumption | exact below_drew (Below.refl _ _)) (fun hHeld => ?_)
      refine held.take (i := 0) (v := .pointer (some ⟨w1.heap.size, 0, none⟩)) rfl (by kernel_rfl) (by kernel_rfl) (by kernel_rfl) (fun _ _ _ h => h) (Or.inl ⟨by rfl, fun W hW => by (try dsimp only at hW); go_simp⟩) (by assumption) ?_
      (try simp only [Act.put, List.setIfInBounds_toArray, List.set_cons_zero, List.set_cons_succ])
      refine held.take (i := 1) (v := .int .i64 a) rfl (by kernel_rfl) (by kernel_rfl) (by kernel_rfl) (fun _ _ _ h => h) (Or.inl ⟨by rfl, fun W hW => by (try dsimp only at hW); have c0 := KC.out W hW; go_simp⟩) (by assumption) ?_
      (try simp only [Act.put, List.setIfInBounds_toArray, List.set_cons_zero, List.set_cons_succ])
      refine held.take (i := 2) (v := .int .i64 (a + 1)) rfl (by kernel_rfl) (by kernel_rfl) (by kernel_rfl) (fun _ _ _ h => h) (Or.inl ⟨by rfl, fun W hW => by (try dsimp only at hW); go_simp⟩) (by assumption) ?_
      (try simp only [Act.put, List.setIfInBounds_toArray, List.set_cons_zero, List.set_cons_succ])
      refine held.take (i := 3) (v := .pointer (some ⟨tb', 0, none⟩)) rfl (by kernel_rfl) (by kernel_rfl) (by kernel_rfl) (fun _ _ _ h => h) (Or.inl ⟨by rfl, fun W hW => by (try dsimp only at hW); go_simp⟩) (by assumption) ?_
      (try simp only [Act.put, List.setIfInBounds_toArray, List.set_cons_zero, List.set_cons_succ])
      refine held.only (i := 4) (by kernel_rfl) rfl (fun K hK => ?_)
      go_simp
      go_at_call 29
      (with_reducible refine (KLe.out _ hHeld).mono ?_)
      rintro e w7 ⟨rfl, rfl⟩
      refine hK.out _ _ (by (try dsimp only); first | assumption | exact below_drew (Below.refl _ _)) (fun hHeld => ?_)
      clear hK K
      (try simp only [Act.put, List.setIfInBounds_toArray, List.set_cons_zero, List.set_cons_succ])
      refine held.take (i := 5) (v := .int .i64 c') rfl (by kernel_rfl) (by kernel_rfl) (by kernel_rfl) (fun _ _ _ h => h) (Or.inl ⟨by rfl, fun W hW => by (try dsimp only at hW); go_simp⟩) (by assumption) ?_
      (try simp only [Act.put, List.setIfInBounds_toArray, List.set_cons_zero, List.set_cons_succ])
      refine held.take (i := 6) (v := _) rfl (by kernel_rfl) (by kernel_rfl) (by kernel_rfl) (fun _ _ _ h => h) (Or.inl ⟨by rfl, fun _ _ => rfl⟩) (by assumption) ?_
      (try simp only [Act.put, List.setIfInBounds_toArray, List.set_cons_zero, List.set_cons_succ])
      refine wpAnyH_done (by kernel_rfl) ?_ _
      refine NoPanic.normal ?_
      clear hmin hw
      generalize w6.drew = w6' at *
      obtain ⟨u0, u1, u2⟩ := three_at (SK5'.out _ hHeld)
      go_wp2_with (first
        | (go_at_call 52; (with_reducible refine (KSh.out _).mono ?_); rintro e w7 ⟨rfl, hB7⟩; have hB67 := hHeld.trans (hB7.mono hHeld.size); have RK7 := Lib.hid (RK5.out _ hB67))
        | (refine wpList_loadMk rfl _ rfl w.heap.size 2 rfl m.f (MM.out _ hHeld) ?_)
        | (refine wpList_buildV rfl 53 _ rfl #[(0, .pointer (some ⟨tb', 0, none⟩)), (1, .int .i64 c'), (2, .agg (arr (shf m.f a d ins.length)))] (by simp [Act.eval]) _ (bldM (some ⟨tb', 0, none⟩) ⟨nxt m.L ⟨a, d, A, c, ins⟩, c', shf m.f a d ins.length⟩) ?_)
        | (refine wpList_storeMo rfl (.tmp 4) (.tmp 47) rfl w2.heap.size _ _ RK7.out (some ⟨tb', 0, none⟩) ⟨nxt m.L ⟨a, d, A, c, ins⟩, c', shf m.f a d ins.length⟩ rfl rfl ?_; intro w8 hA8 hO8)
        | fail "NONE")
      refine bodyPost_ret (results_V2 53 undM infM Try.results35 (by rfl) (moL_len _ _) (At.whole hA8)) (by rfl) ?_
      exact HF.out _ _ _ hB67 hO8 HC.out
  · have hkn : (k != 0) = true := by simpa using hk0
    have hke : (k == 0) = false := by simpa using hk0
    have HK0 := Lib.hid hk0
    have hwl : w2.heap.size < w3.heap.size := RK.out.lt
    clear hk0
    go_enter Try.func35, Try.ntmps35
    go_wp2_with (first
      | (refine wpList_boxV rfl 53 _ rfl _ rfl ?_; rw [hw1]; clear hw1)
      | (refine wpList_boxV rfl 24 _ rfl _ rfl ?_; rw [hw2]; clear hw2)
      | (refine wpList_allocV rfl 53 rfl _ (zerM _) ?_; rw [hw3]; clear hw3)
      | fail "NONE")
    go_at_call 50
    refine KS.out.mono ?_
    rintro e w4 ⟨hB4, ⟨_, rfl⟩ | ⟨h0, _⟩⟩
    rotate_left
    · exact absurd h0 HK0.out
    have RK4 := Lib.hid (RK.out.same (hB4.block _ hwl))
    go_wp2_with (first
      | (refine wpList_buildV rfl 53 _ rfl #[] (by simp) _ bldM0 ?_)
      | (refine wpList_storeMo rfl (.tmp 4) (.tmp 24) rfl w2.heap.size _ _ RK4.out none zeroM rfl rfl ?_; intro w8 hA8 hO8)
      | fail "NONE")
    refine bodyPost_ret (results_V2 53 undM infM Try.results35 (by rfl) (moL_len _ _) (At.whole hA8)) (by rfl) ?_
    exact ⟨(HB03.out.trans (hB4.mono HB03.out.size)).trans (hO8.below (by rw [HZ2.out]; omega)), .inl ⟨HK0.out, rfl⟩⟩
end Go.Proofs.Ytdbeedhedjhamaa.cor
