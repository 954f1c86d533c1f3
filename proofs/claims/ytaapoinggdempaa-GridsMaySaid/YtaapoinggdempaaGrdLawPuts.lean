/- GridsPuts, walked. -/
import Derived.Test.YtaapoinggdempaaGrdTree
import Derived.StillTailTactics
namespace Go.Proofs.Ytaapoinggdempaa.grd
open Go.RowKit Go.Lib
set_option linter.unusedVariables false
set_option linter.unusedSimpArgs false
set_option linter.unnecessarySimpa false
set_option linter.unusedSectionVars false

/-- A list of cells that came in: three cells of memory each. -/
def Cels (w : World) (hi : Nat) (A : Option Addr) (cs : List Cl') : Prop :=
  0 < cs.length → ∃ b off, A = some ⟨b, off, none⟩ ∧ b < hi ∧ ∀ (j : Nat) x, cs[j]? = some x → w.cell? ⟨b, off + j * 3, none⟩ = some (.int .i64 x.r) ∧ w.cell? ⟨b, off + j * 3 + 1, none⟩ = some (.int .i64 x.c) ∧ w.cell? ⟨b, off + j * 3 + 2, none⟩ = some (.int .u8 (x.b.toNat : Int))
theorem Cels.below {w w' : World} {hi N : Nat} {A : Option Addr} {cs : List Cl'} (h : Cels w hi A cs) (hB : Below N w w') (hn : hi ≤ N) : Cels w' hi A cs := fun h0 => by
  obtain ⟨b, off, e, hb, hc⟩ := h h0
  refine ⟨b, off, e, hb, fun j x hx => ?_⟩
  obtain ⟨h1, h2, h3⟩ := hc j x hx
  exact ⟨(hB.cell (p := ⟨b, _, none⟩) (by show b < N; omega)).trans h1, (hB.cell (p := ⟨b, _, none⟩) (by show b < N; omega)).trans h2, (hB.cell (p := ⟨b, _, none⟩) (by show b < N; omega)).trans h3⟩
theorem want_take (cs : List Cl') (j : Nat) (x : Cl') (hx : cs[j]? = some x) (i k : Nat) (z : UInt8) : want (cs.take (j + 1)) i k z = if x.r = (i : Int) ∧ x.c = (k : Int) ∧ okB x.b = true then x.b else want (cs.take j) i k z := by
  obtain ⟨hj, rfl⟩ := List.getElem?_eq_some_iff.1 hx
  rw [List.take_succ_eq_append_getElem hj, want_snoc]
theorem puts_take (g : Gd) (cs : List Cl') (j : Nat) (x : Cl') (hx : cs[j]? = some x) : puts g (cs.take (j + 1)) = putG (puts g (cs.take j)) x.r x.c x.b := by
  obtain ⟨hj, rfl⟩ := List.getElem?_eq_some_iff.1 hx
  rw [List.take_succ_eq_append_getElem hj, puts_snoc]
theorem few_puts (g : Gd) (l : List Cl') (h : few g.cells) : few (puts g l).cells := by
  induction l generalizing g with
  | nil => exact h
  | cons x l ih => exact ih _ (few_put _ _ _ _ h)
theorem puts_eta (n m : Nat) (l : List Cl') : puts (blankG n m) l = ⟨n, m, (puts (blankG n m) l).cells, 0, 0⟩ := by
  obtain ⟨h1, h2, h3, h4, _⟩ := puts_nums (blankG n m) l
  exact may_eq h1 h2 h3 h4 rfl
theorem Gr.drew {w : World} {lo hi n c : Nat} {A : Option Addr} {ls : List (List UInt8)} (h : Gr w lo hi A n c ls) : Gr w.drew lo hi A n c ls := h.keep fun _ _ _ => rfl
/-- One more Put, and that what comes of it may be. -/
theorem put_step (n m : Nat) (hn1 : 2 ≤ n) (hn2 : n ≤ 60) (hm1 : 8 ≤ m) (hm2 : m ≤ 132) (cs : List Cl') (j : Nat) (x : Cl') (hx : cs[j]? = some x) (h : Nat) (W : World) (hG : Gr W 0 W.heap.size (some ⟨h, 0, none⟩) n n (puts (blankG n m) (cs.take j)).cells) :
    Calls Try.prog 16 #[.agg #[.int .i64 n, .int .i64 m, .slice (some ⟨h, 0, none⟩) n n, .int .i64 0, .int .i64 0], .int .i64 x.r, .int .i64 x.c, .int .u8 (x.b.toNat : Int)] W fun e w' => ∃ h', e = .returned (.agg #[.int .i64 n, .int .i64 m, .slice (some ⟨h', 0, none⟩) n n, .int .i64 0, .int .i64 0]) ∧ Gr w' W.heap.size w'.heap.size (some ⟨h', 0, none⟩) n n (puts (blankG n m) (cs.take (j + 1))).cells ∧ Below W.heap.size W w' := by
  have hf := few_puts (blankG n m) (cs.take j) (few_blank n m hn2 hm2)
  refine (put_is n m 0 0 _ n n _ x.r x.c x.b W hf hG).mono ?_
  rintro e w' ⟨h', rfl, hO, hB⟩
  rw [← puts_eta n m (cs.take j)] at hO
  refine ⟨h', rfl, ?_, hB⟩
  rw [puts_take _ _ _ _ hx]
  exact hO.rows (few_put _ _ _ _ hf)
theorem check_step (n m : Nat) (hn1 : 2 ≤ n) (hn2 : n ≤ 60) (hm1 : 8 ≤ m) (hm2 : m ≤ 132) (l : List Cl') (h : Nat) (W : World) (hG : Gr W 0 W.heap.size (some ⟨h, 0, none⟩) n n (puts (blankG n m) l).cells) :
    Calls Try.prog 17 #[.agg #[.int .i64 n, .int .i64 m, .slice (some ⟨h, 0, none⟩) n n, .int .i64 0, .int .i64 0]] W fun e w' => e = .returned (.int .i64 0) ∧ Below W.heap.size W w' :=
  check_is n m 0 0 _ n n _ true (by rw [← puts_eta, may_puts]; exact may_blank n m hn1 hn2 hm1 hm2) W (few_puts (blankG n m) l (few_blank n m hn2 hm2)) hG
set_option maxHeartbeats 8000000 in
set_option maxRecDepth 100000 in
theorem law6_first (n m : Nat) (hn1 : 2 ≤ n) (hn2 : n ≤ 60) (hm1 : 8 ≤ m) (hm2 : m ≤ 132) (a0 a1 : Int) (ha0 : 0 ≤ a0 ∧ a0 ≤ 255) (ha1 : 0 ≤ a1 ∧ a1 ≤ 255) (hn : 2 + a0 % 59 = (n : Int)) (hm : 8 + a1 % 125 = (m : Int)) (A : Option Addr) (N c : Nat) (cs : List Cl') (hN : N = cs.length) (hNm : N ≤ maxLen) (w : World) (h1 : Cels w w.heap.size A cs) :
    Calls Try.prog 6 #[.int .u8 a0, .int .u8 a1, .slice A N c] w fun e w' => e = .returned (.bool true) ∧ Below w.heap.size w w' := by
  have H1 := Lib.hid h1
  have HN := Lib.hid hN
  unfold maxLen at hNm
  clear h1 hN
  obtain ⟨ha00, ha01⟩ := ha0
  obtain ⟨ha10, ha11⟩ := ha1
  by_cases h200 : 200 < N
  · have q0 : decide (200 < (N : Int)) = true := by simp; omega
    clear hn hm
    go_enter Try.func6, Try.ntmps6
    go_wp2
    go_ret
    exact ⟨rfl, Below.refl _ _⟩
  have q0 : decide (200 < (N : Int)) = false := by simp; omega
  go_enter Try.func6, Try.ntmps6
  go_wp2_with fail
  go_at_call 9
  clear hn hm ha00 ha01 ha10 ha11
  refine (new_yes n m hn1 hn2 hm1 hm2 _).mono ?_
  rintro e w1 ⟨h0, rfl, hG, hB1⟩
  have HG := Lib.hid hG
  have HB1 := Lib.hid hB1
  have HZ1 := Lib.hid (newZ w1)
  clear hG hB1
  go_wp2_with (first
    | refine wpList_storeG rfl (.tmp 9) (.tmp 32) rfl w1.heap.size n m 0 0 (some ⟨h0, 0, none⟩) n n rfl rfl _ HZ1.out rfl ?_; intro W1 hA1 hBut1; have HA1 := Lib.hid hA1; have L1 := Lib.hid (laid hBut1); clear hBut1 hA1; obtain ⟨a0, a1, a2, a3, a4⟩ := HA1.out.five; have HZ2 := Lib.hid (newZ W1)
    | refine wpList_storeG rfl (.tmp 11) (.tmp 34) rfl W1.heap.size n m 0 0 (some ⟨h0, 0, none⟩) n n rfl rfl _ HZ2.out rfl ?_; intro W2 hA2 hBut2; have HA2 := Lib.hid hA2; have L2 := Lib.hid (laid hBut2); clear hBut2 hA2 a0 a1 a2 a3 a4)
  have z1 := HB1.out.size
  have z2 := L1.out.2
  have z3 := L2.out.2
  have hG2 : Gr W2 w.heap.size w1.heap.size (some ⟨h0, 0, none⟩) n n (blankC n m) := (HG.out.below L1.out.1 (Nat.le_refl _)).below L2.out.1 (by omega)
  have A9 := Lib.hid (HA1.out.keep L2.out.1 (by omega))
  have BB : Hid (Below w.heap.size w W2) := Lib.hid (HB1.out.trans ((L1.out.1.mono z1).trans (L2.out.1.mono (by omega))))
  have G2 := Lib.hid hG2
  have b9 : w1.heap.size < W1.heap.size := by omega
  have b11 : W1.heap.size < W2.heap.size := by omega
  have b1 : w.heap.size ≤ w1.heap.size := z1
  clear z1 z2 z3 hG2 HG HB1 HZ1 HA1 L1 HZ2 L2
  go_loopg [12] N (fun g s12 wr => ∃ (j h : Nat), j ≤ N ∧ N - j ≤ g ∧ s12 = .int .i64 j ∧ At wr w1.heap.size 24 #[.int .i64 n, .int .i64 m, .slice (some ⟨h, 0, none⟩) n n, .int .i64 0, .int .i64 0] ∧ At wr W1.heap.size 24 #[.int .i64 n, .int .i64 m, .slice (some ⟨h0, 0, none⟩) n n, .int .i64 0, .int .i64 0] ∧ Gr wr w.heap.size w1.heap.size (some ⟨h0, 0, none⟩) n n (blankC n m) ∧ Hid (∃ lo hi, (hi ≤ w1.heap.size ∨ w1.heap.size < lo) ∧ hi ≤ wr.heap.size ∧ Gr wr lo hi (some ⟨h, 0, none⟩) n n (puts (blankG n m) (cs.take j)).cells) ∧ Below w.heap.size w wr)
  case atStart => exact ⟨0, h0, Nat.zero_le _, by omega, rfl, A9.out, HA2.out, G2.out, Lib.hid ⟨w.heap.size, w1.heap.size, .inl (Nat.le_refl _), by omega, G2.out⟩, BB.out⟩
  case round =>
    obtain ⟨j, h, hj, hg, rfl, hA9, hA11, hG, HP, hB⟩ := hrel
    clear A9 HA2 G2 BB
    have AA9 := Lib.hid hA9
    have AA11 := Lib.hid hA11
    have GG := Lib.hid hG
    have BB := Lib.hid hB
    have hlt9 := hA9.lt
    have hlt11 := hA11.lt
    clear hA9 hA11 hG hB
    by_cases hlt : j < N
    · obtain ⟨x, hx⟩ : ∃ x, cs[j]? = some x := ⟨_, List.getElem?_eq_getElem (by rw [← HN.out]; exact hlt)⟩
      obtain ⟨bc, off, rfl, hbc, hcc⟩ := (H1.out.below BB.out (Nat.le_refl _)) (by rw [← HN.out]; omega)
      obtain ⟨g1, g2, g3⟩ := hcc j x hx
      have HX := Lib.hid hx
      obtain ⟨a0, a1, a2, a3, a4⟩ := AA9.out.five
      obtain ⟨xr, hxr⟩ : ∃ r, r = x.r := ⟨_, rfl⟩
      obtain ⟨xc, hxc⟩ : ∃ r, r = x.c := ⟨_, rfl⟩
      obtain ⟨xb, hxb⟩ : ∃ r : Int, r = (x.b.toNat : Int) := ⟨_, rfl⟩
      rw [← hxr] at g1
      rw [← hxc] at g2
      rw [← hxb] at g3
      have XR := Lib.hid hxr
      have XC := Lib.hid hxc
      have XB := Lib.hid hxb
      clear hx hcc hxr hxc hxb
      go_wp2_with fail
      go_still_tail 16, (by kernel_rfl)
      change wpList _ _ _ _ _ wr.drew
      have HPJ : Hid (Gr wr.drew 0 wr.drew.heap.size (some ⟨h, 0, none⟩) n n (puts (blankG n m) (cs.take j)).cells) := Lib.hid (by
        obtain ⟨lo, hi, _, p2, p3⟩ := HP.out
        exact (p3.mono (Nat.zero_le _) p2).drew)
      have P := Lib.hid (put_step n m hn1 hn2 hm1 hm2 cs j x HX.out h wr.drew HPJ.out)
      rw [← XR.out, ← XC.out, ← XB.out] at P
      go_wp2_with fail
      go_at_call 16
      refine P.out.mono ?_
      rintro e w4 ⟨h', rfl, hG4, hB4⟩
      have hB4' : Below wr.heap.size wr w4 := (below_drew (Below.refl _ _)).trans hB4
      have C9 := Lib.hid (AA9.out.keep hB4' hlt9)
      have C11 := Lib.hid (AA11.out.keep hB4' hlt11)
      have CG := Lib.hid (GG.out.below hB4' (by omega))
      have CB := Lib.hid (BB.out.trans (hB4'.mono BB.out.size))
      have C4 : Hid (Gr w4 wr.heap.size w4.heap.size (some ⟨h', 0, none⟩) n n (puts (blankG n m) (cs.take (j + 1))).cells) := Lib.hid hG4
      have hz4 := hB4'.size
      clear hG4 hB4 hB4' a0 a1 a2 a3 a4 g1 g2 g3 P HPJ HP
      go_wp2_with (refine wpList_storeG rfl (.tmp 9) (.tmp 59) rfl w1.heap.size n m 0 0 (some ⟨h', 0, none⟩) n n rfl rfl _ C9.out rfl ?_; intro w5 hA5 hU5; have D9 := Lib.hid hA5; have hU := Lib.hid hU5; clear hA5 hU5; obtain ⟨a0, a1, a2, a3, a4⟩ := D9.out.five)
      go_at_call 17
      have hz5 : w4.heap.size ≤ w5.heap.size := Nat.le_of_eq hU.out.size.symm
      have D11 := Lib.hid (C11.out.same (hU.out.block _ (by omega)))
      have DG := Lib.hid (CG.out.but hU.out (by omega))
      have DB := Lib.hid (CB.out.trans (hU.out.below (by omega)))
      have D4 := Lib.hid (C4.out.but hU.out (by omega))
      refine (check_step n m hn1 hn2 hm1 hm2 (cs.take (j + 1)) h' w5 (D4.out.mono (Nat.zero_le _) hz5)).mono ?_
      rintro e w6 ⟨rfl, hB6⟩
      have hz6 := hB6.size
      have hl9 := D9.out.lt
      have hl11 := D11.out.lt
      have E9 := Lib.hid (D9.out.keep hB6 hl9)
      have E11 := Lib.hid (D11.out.keep hB6 hl11)
      have EG := Lib.hid (DG.out.below hB6 (by omega))
      have EB := Lib.hid (DB.out.trans (hB6.mono DB.out.size))
      have E4 := Lib.hid (D4.out.below hB6 (by omega))
      have NP : Hid (∃ lo hi, (hi ≤ w1.heap.size ∨ w1.heap.size < lo) ∧ hi ≤ w6.heap.size ∧ Gr w6 lo hi (some ⟨h', 0, none⟩) n n (puts (blankG n m) (cs.take (j + 1))).cells) := Lib.hid ⟨wr.heap.size, w4.heap.size, .inr (by omega), by omega, E4.out⟩
      clear hB6 a0 a1 a2 a3 a4
      go_wp2
      go_roundg (N - (j + 1))
      case measure => omega
      case rel => exact ⟨j + 1, h', by omega, by omega, by go_num, E9.out, E11.out, EG.out, NP, EB.out⟩
    · obtain ⟨W5, hW5⟩ : ∃ W5, W5 = wr := ⟨_, rfl⟩
      subst hW5
      have ecs : cs.take j = cs := List.take_of_length_le (by have := HN.out; omega)
      have HGC : Hid (Gr W5 0 W5.heap.size (some ⟨h, 0, none⟩) n n (puts (blankG n m) cs).cells) := Lib.hid (by
        obtain ⟨lo, hi, _, p2, p3⟩ := HP.out
        rw [ecs] at p3
        exact p3.mono (Nat.zero_le _) p2)
      have HFB : Hid (Gr W5 0 W5.heap.size (some ⟨h0, 0, none⟩) n n (blankC n m)) := Lib.hid (GG.out.mono (Nat.zero_le _) (by omega))
      have HMY : Hid (may (puts (blankG n m) cs) = true) := Lib.hid (by rw [may_puts]; exact may_blank n m hn1 hn2 hm1 hm2)
      have HROWS : Hid (puts (blankG n m) cs = ⟨n, m, (puts (blankG n m) cs).cells, 0, 0⟩) := Lib.hid (puts_eta n m cs)
      have a2 : W5.cell? ⟨w1.heap.size, 2, none⟩ = some (.slice (some ⟨h, 0, none⟩) n n) := AA9.out.cell 2
      have b2 : W5.cell? ⟨W1.heap.size, 2, none⟩ = some (.slice (some ⟨h0, 0, none⟩) n n) := AA11.out.cell 2
      have nn : ((n : Int) != (n : Int)) = false := by simp
      have mm : ((m : Int) != (m : Int)) = false := by simp
      have HC5 := Lib.hid (H1.out.below BB.out (Nat.le_refl _))
      clear HP ecs
      go_wp2
      go_loopg [13, 14, 15, 16] n (fun g s13 s14 s15 s16 wr => ∃ i : Nat, i ≤ n ∧ n - i ≤ g ∧ s13 = .int .i64 i ∧ wr = W5)
      case atStart => exact ⟨0, Nat.zero_le _, by omega, rfl, rfl⟩
      case round =>
        obtain ⟨i, hi, hg, rfl, hw⟩ := hrel
        have hw := hw.symm
        subst hw
        by_cases hit : i < n
        · have hil : i < (puts (blankG n m) cs).cells.length := by rw [← HGC.out.len]; exact hit
          obtain ⟨l, hl⟩ : ∃ l, (puts (blankG n m) cs).cells[i]? = some l := ⟨_, List.getElem?_eq_getElem hil⟩
          have hll : (l.length : Int) = (puts (blankG n m) cs).cols := may_row HMY.out hl
          have hlm : l.length = m := by rw [HROWS.out] at hll; dsimp only at hll; omega
          obtain ⟨r1, s1, B1, d1, e1, _, _, g1, _, _, v1⟩ := HGC.out.at i l hl
          injection e1 with e1
          injection e1 with e1 e2
          subst e1 e2
          rw [hlm, Nat.zero_add] at g1
          have hbl : (blankC n m)[i]? = some (List.replicate m 32) := by unfold blankC; rw [List.getElem?_replicate, if_pos hit]
          obtain ⟨r2, s2, B2, d2, e3, _, _, f1, _, _, v2⟩ := HFB.out.at i _ hbl
          injection e3 with e3
          injection e3 with e3 e4
          subst e3 e4
          rw [List.length_replicate, Nat.zero_add] at f1
          have HL := Lib.hid hl
          have HLM := Lib.hid hlm
          have V1 := Lib.hid v1
          have V2 := Lib.hid v2
          clear hl hll hlm v1 v2 hbl hil
          go_wp2
          go_loopg [14, 15, 16] m (fun g s14 s15 s16 wr => ∃ k : Nat, k ≤ m ∧ m - k ≤ g ∧ s14 = .int .i64 k ∧ wr = W5)
          case atStart => exact ⟨0, Nat.zero_le _, by omega, rfl, rfl⟩
          case round =>
            obtain ⟨k, hk, hg2, rfl, hw⟩ := hrel
            have hw := hw.symm
            subst hw
            by_cases hkt : k < m
            · obtain ⟨y, hy⟩ : ∃ y, l[k]? = some y := ⟨_, List.getElem?_eq_getElem (by rw [HLM.out]; exact hkt)⟩
              obtain ⟨b3, o3, rfl, _, _, g3⟩ := VRd.at V1.out k y hy
              obtain ⟨b4, o4, rfl, _, _, f3⟩ := VRd.at V2.out k 32 (by rw [List.getElem?_replicate, if_pos hkt])
              have ey : y = want cs i k 32 := by
                have h1 := at_puts (blankG n m) (may_blank n m hn1 hn2 hm1 hm2) cs i k (show (i : Int) < (n : Int) by omega) (show (k : Int) < (m : Int) by omega)
                have h2 : at' (puts (blankG n m) cs).cells i k = y := by
                  unfold at' List.getD
                  rw [HL.out, Option.getD_some, hy]; rfl
                rw [h2] at h1
                rw [h1]
                exact congrArg (want cs i k) (at_blank n m i k hit hkt)
              have f3' : W5.cell? ⟨b4, o4 + k, none⟩ = some (.int .u8 32) := f3
              obtain ⟨t, ht⟩ : ∃ t : Nat, t = y.toNat := ⟨_, rfl⟩
              rw [← ht] at g3
              have HT : Hid (t = (want cs i k 32).toNat) := Lib.hid (by rw [ht, ey])
              clear f3 hy ey ht
              go_wp2
              go_loopg [15, 16] N (fun g s15 s16 wr => ∃ (j t : Nat), j ≤ N ∧ N - j ≤ g ∧ s16 = .int .i64 j ∧ s15 = .int .u8 t ∧ Hid (t = (want (cs.take j) i k 32).toNat) ∧ wr = W5)
              case atStart => exact ⟨0, 32, Nat.zero_le _, by omega, rfl, rfl, Lib.hid rfl, rfl⟩
              case round =>
                obtain ⟨j, v, hj, hg3, rfl, rfl, HV, hw⟩ := hrel
                have hw := hw.symm
                subst hw
                by_cases hjt : j < N
                · obtain ⟨x, hx⟩ : ∃ x, cs[j]? = some x := ⟨_, List.getElem?_eq_getElem (by rw [← HN.out]; exact hjt)⟩
                  obtain ⟨bc, off, rfl, hbc, hcc⟩ := HC5.out (by rw [← HN.out]; omega)
                  obtain ⟨q1, q2, q3⟩ := hcc j x hx
                  have HW := Lib.hid (want_take cs j x hx i k 32)
                  obtain ⟨xr, hxr⟩ : ∃ r, r = x.r := ⟨_, rfl⟩
                  obtain ⟨xc, hxc⟩ : ∃ r, r = x.c := ⟨_, rfl⟩
                  obtain ⟨xb, hxb⟩ : ∃ r : Nat, r = x.b.toNat := ⟨_, rfl⟩
                  rw [← hxr] at q1
                  rw [← hxc] at q2
                  rw [← hxb] at q3
                  have HOK : Hid (okB x.b = decide (32 ≤ xb ∧ xb ≤ 126)) := Lib.hid (by unfold okB; rw [hxb])
                  have XR := Lib.hid hxr
                  have XC := Lib.hid hxc
                  have XB := Lib.hid hxb
                  clear hx hcc hxr hxc hxb
                  by_cases c1 : xr = (i : Int)
                  · have t1 : (xr == (i : Int)) = true := by simp [c1]
                    have C1 := Lib.hid c1
                    clear c1
                    by_cases c2 : xc = (k : Int)
                    · have t2 : (xc == (k : Int)) = true := by simp [c2]
                      have C2 := Lib.hid c2
                      clear c2
                      by_cases c3 : 32 ≤ xb
                      · have t3 : decide (32 ≤ (xb : Int)) = true := by simp; omega
                        by_cases c4 : xb ≤ 126
                        · have t4 : decide ((xb : Int) ≤ 126) = true := by simp; omega
                          have NW : Hid (xb = (want (cs.take (j + 1)) i k 32).toNat) := Lib.hid (by rw [HW.out, if_pos ⟨XR.out.symm.trans C1.out, XC.out.symm.trans C2.out, by rw [HOK.out]; exact decide_eq_true ⟨c3, c4⟩⟩]; exact XB.out)
                          clear c3 c4
                          go_wp2
                          go_roundg (N - (j + 1))
                          case measure => omega
                          case rel => exact ⟨j + 1, xb, by omega, by omega, by go_num, rfl, NW, rfl⟩
                        · have t4 : decide ((xb : Int) ≤ 126) = false := by simp; omega
                          have NW : Hid (v = (want (cs.take (j + 1)) i k 32).toNat) := Lib.hid (by rw [HW.out, if_neg (fun h => by have := h.2.2; rw [HOK.out] at this; exact c4 (of_decide_eq_true this).2)]; exact HV.out)
                          clear c3 c4
                          go_wp2
                          go_roundg (N - (j + 1))
                          case measure => omega
                          case rel => exact ⟨j + 1, v, by omega, by omega, by go_num, rfl, NW, rfl⟩
                      · have t3 : decide (32 ≤ (xb : Int)) = false := by simp; omega
                        have NW : Hid (v = (want (cs.take (j + 1)) i k 32).toNat) := Lib.hid (by rw [HW.out, if_neg (fun h => by have := h.2.2; rw [HOK.out] at this; exact c3 (of_decide_eq_true this).1)]; exact HV.out)
                        clear c3
                        go_wp2
                        go_roundg (N - (j + 1))
                        case measure => omega
                        case rel => exact ⟨j + 1, v, by omega, by omega, by go_num, rfl, NW, rfl⟩
                    · have t2 : (xc == (k : Int)) = false := by simp [c2]
                      have NW : Hid (v = (want (cs.take (j + 1)) i k 32).toNat) := Lib.hid (by rw [HW.out, if_neg (fun h => c2 (XC.out.trans h.2.1))]; exact HV.out)
                      clear c2
                      go_wp2
                      go_roundg (N - (j + 1))
                      case measure => omega
                      case rel => exact ⟨j + 1, v, by omega, by omega, by go_num, rfl, NW, rfl⟩
                  · have t1 : (xr == (i : Int)) = false := by simp [c1]
                    have NW : Hid (v = (want (cs.take (j + 1)) i k 32).toNat) := Lib.hid (by rw [HW.out, if_neg (fun h => c1 (XR.out.trans h.1))]; exact HV.out)
                    clear c1
                    go_wp2
                    go_roundg (N - (j + 1))
                    case measure => omega
                    case rel => exact ⟨j + 1, v, by omega, by omega, by go_num, rfl, NW, rfl⟩
                · have evt : v = t := by
                    rw [HV.out, HT.out, List.take_of_length_le (by have := HN.out; omega)]
                  subst evt
                  have vv : ((v : Int) != (v : Int)) = false := by simp
                  go_wp2
                  go_roundg (m - (k + 1))
                  case measure => omega
                  case rel => exact ⟨k + 1, by omega, by omega, by go_num, rfl⟩
            · go_wp2
              go_roundg (n - (i + 1))
              case measure => omega
              case rel => exact ⟨i + 1, by omega, by omega, by go_num, rfl⟩
        · go_wp2_with fail
          go_at_call 12
          refine (does_is _).mono ?_
          rintro e w9 ⟨rfl, hB9⟩
          have E9 : Hid (Below w.heap.size w w9) := Lib.hid (BB.out.trans (hB9.mono BB.out.size))
          clear hB9
          go_wp2
          go_ret
          exact ⟨rfl, E9.out⟩
end Go.Proofs.Ytaapoinggdempaa.grd
