/- VtFeed: as the document's terminal, text by text. -/
import Derived.Test.YteekihhngjbjgaaVttRefVNew
import Derived.StillTailTactics
namespace Go.Proofs.Yteekihhngjbjgaa.vtt
open Go.RowKit Go.Lib Go.Proofs.Yteekihhngjbjgaa.grd
set_option linter.unusedVariables false
set_option linter.unusedSimpArgs false
set_option linter.unnecessarySimpa false
set_option linter.unusedSectionVars false

theorem same_ref (s : Ts) (h c2 : Nat) (A2 : Option Addr) (W : World) (hG : Gr W 0 W.heap.size (some ⟨h, 0, none⟩) s.n s.n s.ls) (hG' : Gr W 0 W.heap.size A2 s.n c2 s.ls) :
    Calls Try.prog 17 #[.agg #[.int .i64 s.n, .int .i64 s.m, .slice (some ⟨h, 0, none⟩) s.n s.n, .int .i64 s.r, .int .i64 s.k], .agg #[.int .i64 s.n, .int .i64 s.m, .slice A2 s.n c2, .int .i64 s.r, .int .i64 s.k]] W fun e w' => e = .returned (.bool true) ∧ Below W.heap.size W w' :=
  refSame_is s.n s.m s.r s.k s.n s.m s.r s.k _ _ s.n s.n s.n c2 s.ls s.ls true (sameB_self _ _ _ _ _ _ rfl) W hG hG'
set_option maxHeartbeats 4000000 in
set_option maxRecDepth 100000 in
theorem feed_none (r0 c0 : Int) (hs : sized r0 c0 = false) (A : Option Addr) (n c : Nat) (zs : List ByteArray) (w : World) (hL : IsList w A n c zs) :
    Calls Try.prog 3 #[.int .i64 r0, .int .i64 c0, .slice A n c] w (Yes w) := by
  obtain ⟨hn, hc, hm, hz, h1⟩ := hL
  have C1 := Lib.hid (great A c w.heap.size n 30 3000 zs w hn (by unfold maxLen at hm; omega) (by omega) (by omega) hz h1)
  have CN := Lib.hid (fun W => vnew_no r0 c0 hs W)
  have CR := Lib.hid (fun W => refvnew_no r0 c0 hs W)
  clear hn hc hm hz h1 hs
  go_enter Try.func3, Try.ntmps3
  go_wp2_with fail
  go_at_call 10
  refine C1.out.mono ?_
  rintro e w' ⟨(rfl | ⟨rfl, g1, g2⟩), rfl⟩
  · go_wp2
    go_ret
    exact ⟨rfl, Below.refl _ _⟩
  · clear C1 g1 g2
    go_wp2_with fail
    go_at_call 11
    refine (CN.out _).mono ?_
    rintro e w1 ⟨rfl, hB1⟩
    have HB1 := Lib.hid hB1
    clear hB1
    go_wp2_with fail
    go_at_call 12
    refine (CR.out _).mono ?_
    rintro e w2 ⟨rfl, hB2⟩
    have HB2 : Hid (Below w.heap.size w w2) := Lib.hid (HB1.out.trans (hB2.mono HB1.out.size))
    clear hB2
    go_wp2_with fail
    go_at_call 13
    refine (does_is _).mono ?_
    rintro e w3 ⟨rfl, hB3⟩
    have HB3 : Hid (Below w.heap.size w w3) := Lib.hid (HB2.out.trans (hB3.mono HB2.out.size))
    clear hB3
    go_wp2
    go_ret
    exact ⟨rfl, HB3.out⟩
set_option maxHeartbeats 16000000 in
set_option maxRecDepth 100000 in
theorem feed_some (n0 m0 : Nat) (hz0 : 2 ≤ n0 ∧ n0 ≤ 60 ∧ 8 ≤ m0 ∧ m0 ≤ 132) (A : Option Addr) (n c : Nat) (zs : List ByteArray) (w : World) (hL : IsList w A n c zs) :
    Calls Try.prog 3 #[.int .i64 n0, .int .i64 m0, .slice A n c] w (Yes w) := by
  obtain ⟨hn, hc, hm, hz, h1⟩ := hL
  have C1 := Lib.hid (great A c w.heap.size n 30 3000 zs w hn (by unfold maxLen at hm; omega) (by omega) (by omega) hz h1)
  have CN := Lib.hid (fun W => vnew_yes n0 m0 hz0 W)
  have CR := Lib.hid (fun W => refvnew_yes n0 m0 hz0 W)
  have HN := Lib.hid hn
  have H1 := Lib.hid h1
  clear hn hc hm hz h1 hz0
  go_enter Try.func3, Try.ntmps3
  go_wp2_with fail
  go_at_call 10
  refine C1.out.mono ?_
  rintro e w' ⟨(rfl | ⟨rfl, g1, g2⟩), rfl⟩
  · go_wp2
    go_ret
    exact ⟨rfl, Below.refl _ _⟩
  · clear C1
    have hn30 : n ≤ 30 := by rw [HN.out]; exact g1
    have HT := Lib.hid g2
    clear g1 g2
    go_wp2_with fail
    go_at_call 11
    refine (CN.out _).mono ?_
    rintro e w1 ⟨b, rfl, hV1, hB1⟩
    obtain ⟨hi, hhi⟩ : ∃ hi, hi = w1.heap.size := ⟨_, rfl⟩
    rw [← hhi] at hV1
    have HHI := Lib.hid hhi
    have HV1 := Lib.hid hV1
    have HB1 := Lib.hid hB1
    clear hV1 hB1 hhi
    go_wp2_with fail
    go_at_call 12
    refine (CR.out _).mono ?_
    rintro e w2 ⟨rb, rfl, hR2, hB2⟩
    have ST : Hid (FeedInv hi b rb w 0 w2) := Lib.hid ⟨_, 0, Nat.le_refl _, HV1.out.below hB2 (by rw [HHI.out]; exact Nat.le_refl _), by rw [HHI.out]; exact hR2, HB1.out.trans (hB2.mono HB1.out.size)⟩
    clear hR2 hB2 CN CR HV1 HB1 HHI
    go_wp2
    go_loopg [9, 10, 11, 12] n (fun g s9 s10 s11 s12 wr => ∃ i : Nat, i ≤ n ∧ n - i ≤ g ∧ s9 = .int .i64 i ∧ Hid (FeedInv hi b rb w i wr))
    case atStart => exact ⟨0, Nat.zero_le _, by omega, rfl, ST⟩
    case round =>
      obtain ⟨i, hi', hg, rfl, HI⟩ := hrel
      clear ST
      obtain ⟨s, N, hN, hV, hR, hB⟩ := HI.out
      by_cases hlt : i < n
      · obtain ⟨p1, o1, rfl, hp1, hc1⟩ := H1.out (by rw [← HN.out]; omega)
        have hil : i < zs.length := by rw [← HN.out]; exact hlt
        have hc2 := hc1 i hil
        have ht := Nat.le_trans (size_tot zs i hil) HT.out
        generalize zs.getD i ByteArray.empty = t at hc2 ht
        have HC := Lib.hid hc2
        have HP := Lib.hid hp1
        have g1 : wr.cell? ⟨p1, o1 + i, none⟩ = some (.string t) := (hB.cell (p := ⟨p1, o1 + i, none⟩) hp1).trans hc2
        have CF := Lib.hid (feed_is w.heap.size hi b s t wr (by omega) hV)
        have HR := Lib.hid hR
        have HB := Lib.hid hB
        have hlh : Hid (w.heap.size ≤ hi) := Lib.hid (by have := hV.bb; omega)
        have hN9 : N + t.size ≤ 1000000 := by omega
        have hN2 : N + t.size ≤ (i + 1) * 3000 := by omega
        clear hc1 hc2 hp1 hil hV hR hB HI hN
        go_wp2_with fail
        go_at_call 14
        refine CF.out.mono ?_
        rintro e w3 ⟨rfl, hV3, hT3⟩
        have hB3 : Below w.heap.size w w3 := HB.out.trans (hT3.below (Nat.le_refl _) HB.out.size)
        have CRF := Lib.hid (reffeed_is hi rb N s t w3 hN9 (HR.out.far hT3 (Nat.le_refl _)))
        have g3 : w3.cell? ⟨p1, o1 + i, none⟩ = some (.string t) := (hB3.cell (p := ⟨p1, o1 + i, none⟩) HP.out).trans HC.out
        generalize feed s t.data.toList = s2 at hV3 CRF
        have HV3 := Lib.hid hV3
        have HB3 := Lib.hid hB3
        clear hV3 hT3 hB3 CF HR HB g1 hN9 ht
        go_wp2_with fail
        go_at_call 15
        refine CRF.out.mono ?_
        rintro e w4 ⟨rfl, hR4⟩
        have HV4 := Lib.hid (HV3.out.below hR4.2 (Nat.le_refl _))
        have HB4 : Hid (Below w.heap.size w w4) := Lib.hid (HB3.out.trans (hR4.2.mono hlh.out))
        have HR4 := Lib.hid hR4.1
        have CG := Lib.hid (grid_is w.heap.size hi b s2 w4 HV4.out)
        have NEXT : Hid (∀ W, Below w4.heap.size w4 W → FeedInv hi b rb w (i + 1) W) := Lib.hid fun W hW => ⟨s2, _, hN2, HV4.out.below hW HV4.out.sz, HR4.out.below hW, HB4.out.trans (hW.mono HB4.out.size)⟩
        have OK := Lib.hid HV4.out.ok
        clear hR4 CRF HV3 HB3 g3 hN2 HC HP
        go_wp2_with fail
        go_at_call 16
        refine CG.out.mono ?_
        rintro e w5 ⟨h, rfl, hO, hB5⟩
        have HO := Lib.hid hO
        have HB5 := Lib.hid hB5
        have HN5 := Lib.hid (At.new w5 34 #[.int .i64 0, .int .i64 0, .slice none 0 0, .int .i64 0, .int .i64 0])
        clear hO hB5 CG
        go_wp2_with (refine wpList_storeG rfl (.tmp 10) (.tmp 49) rfl w5.heap.size s2.n s2.m s2.r s2.k (some ⟨h, 0, none⟩) s2.n s2.n rfl rfl _ HN5.out rfl ?_; intro w6 hA hBut; obtain ⟨hg6, hB6, hz6⟩ := Gb.mk' (s := s2) HO.out HB5.out.size hA hBut; have HW := Lib.hid hg6; have HB6 := Lib.hid hB6; clear hA hBut hg6 hB6 hz6)
        have HB46 : Hid (Below w4.heap.size w4 w6) := Lib.hid (HB5.out.trans (HB6.out.mono HB5.out.size))
        obtain ⟨A2, c2, q2, hv6⟩ := HR4.out.below HB46.out
        obtain ⟨b0, b1, b2, b3, b4, _⟩ := hv6.seven
        obtain ⟨a0, a1, a2, a3, a4⟩ := HW.out.five
        have CS := Lib.hid (same_ref s2 h c2 A2 w6.drew ((HW.out.drew).gr OK.out.few) (hv6.same (w' := w6.drew) rfl).gr)
        have hw56 : Hid (w4.heap.size ≤ w5.heap.size) := Lib.hid HB5.out.size
        have hlt5 := HW.out.lt
        clear hv6 HN5 HO HB5 HB6
        go_wp2_with fail
        go_still_tail 5, (by kernel_rfl)
        change wpList _ _ _ _ _ w6.drew
        go_wp2_with fail
        go_at_call 17
        refine CS.out.mono ?_
        rintro e w7 ⟨rfl, hB7⟩
        have HC7 : Hid (Cl w4 w5.heap.size h s2 w7) := Lib.hid (by
          have hb7 : Below w6.heap.size w6 w7 := ⟨hB7.os, hB7.tape, hB7.output, hB7.size, hB7.block⟩
          have hG := HW.out.below hb7 HW.out.lt
          exact ⟨HB46.out.trans (hb7.mono HB46.out.size), hG.blk, hw56.out, s2.ls, hG.own, OK.out.row⟩)
        have hzz := OK.out.size
        clear hB7 CS a0 a1 a2 a3 a4 b0 b1 b2 b3 b4 HW HB46 hlt5
        go_wp2
        go_loopg [11, 12] s2.n (fun g s11 s12 wj => ∃ j : Nat, j ≤ s2.n ∧ s2.n - j ≤ g ∧ s11 = .int .i64 j ∧ Hid (Cl w4 w5.heap.size h s2 wj))
        case atStart => exact ⟨0, Nat.zero_le _, by omega, rfl, HC7⟩
        case round =>
          obtain ⟨j, hj, hgj, rfl, HCJ⟩ := hrel
          clear HC7
          have a2 := HCJ.out.five
          by_cases hjn : j < s2.n
          · go_wp2
            go_loopg [12] s2.m (fun g s12 wk => ∃ k : Nat, k ≤ s2.m ∧ s2.m - k ≤ g ∧ s12 = .int .i64 k ∧ Hid (Cl w4 w5.heap.size h s2 wk))
            case atStart => exact ⟨0, Nat.zero_le _, by omega, rfl, HCJ⟩
            case round =>
              obtain ⟨k, hk, hgk, rfl, HCK⟩ := hrel
              clear HCJ a2
              have a2 := HCK.out.five
              by_cases hkm : k < s2.m
              · obtain ⟨bb, d, x, r1, r2, r3, hC⟩ := HCK.out.put j k hjn hkm
                have HX := Lib.hid hC
                clear hC HCK
                go_wp2
                go_roundg (s2.m - (k + 1))
                case measure => omega
                case rel => exact ⟨k + 1, by omega, by omega, by go_num, HX⟩
              · obtain rfl : k = s2.m := by omega
                obtain ⟨bb, d, x, r1, r2, r3, hC⟩ := HCK.out.put j 0 hjn (by omega)
                clear hC r2 r3
                go_wp2
                go_roundg (s2.n - (j + 1))
                case measure => omega
                case rel => exact ⟨j + 1, by omega, by omega, by go_num, HCK⟩
          · have hjz : j = s2.n := by omega
            subst hjz
            have NX := Lib.hid (NEXT.out _ HCJ.out.1)
            clear HCJ NEXT
            go_wp2
            go_roundg (n - (i + 1))
            case measure => omega
            case rel => exact ⟨i + 1, by omega, by omega, by go_num, NX⟩
      · obtain rfl : i = n := by omega
        obtain ⟨A2, c2, q2, hv⟩ := hR
        have HV := Lib.hid hV
        have HVR := Lib.hid hv
        have BB := Lib.hid hB
        have OK := Lib.hid hV.ok
        clear HI hN hV hv hB
        have G1 : Hid (∀ W', More wr.heap.size wr W' → Calls Try.prog 16 #[.pointer (some ⟨b, 0, none⟩)] W' (Shown s W')) := Lib.hid fun W' hM => grid_is w.heap.size hi b s W' (HV.out.below hM HV.out.sz)
        have S1 : Hid (∀ W' h1, More wr.heap.size wr W' → Gr W' 0 W'.heap.size (some ⟨h1, 0, none⟩) s.n s.n s.ls → Calls Try.prog 17 #[.agg #[.int .i64 s.n, .int .i64 s.m, .slice (some ⟨h1, 0, none⟩) s.n s.n, .int .i64 s.r, .int .i64 s.k], .agg #[.int .i64 s.n, .int .i64 s.m, .slice A2 s.n c2, .int .i64 s.r, .int .i64 s.k]] W' fun e w' => e = .returned (.bool true) ∧ Below W'.heap.size W' w') := Lib.hid fun W' h1 hM hG => same_ref s h1 c2 A2 W' hG (HVR.out.below hM).gr
        have SK : Hid (∀ W', More wr.heap.size wr W' → (W'.cell? ⟨rb, 0, none⟩ = some (.int .i64 s.n) ∧ W'.cell? ⟨rb, 1, none⟩ = some (.int .i64 s.m) ∧ W'.cell? ⟨rb, 2, none⟩ = some (.slice A2 s.n c2) ∧ W'.cell? ⟨rb, 3, none⟩ = some (.int .i64 s.r) ∧ W'.cell? ⟨rb, 4, none⟩ = some (.int .i64 s.k)) ∧ More wr.heap.size wr W') := Lib.hid fun W' hM => by
          obtain ⟨b0, b1, b2, b3, b4, _⟩ := (HVR.out.below hM).seven
          exact ⟨⟨b0, b1, b2, b3, b4⟩, hM⟩
        have S0 := SK.out wr (Below.refl _ _)
        have FEW : Hid (few s.ls) := Lib.hid OK.out.few
        go_wp2_with fail
        go_region_held3 (fun W' => (W'.cell? ⟨rb, 0, none⟩ = some (.int .i64 s.n) ∧ W'.cell? ⟨rb, 1, none⟩ = some (.int .i64 s.m) ∧ W'.cell? ⟨rb, 2, none⟩ = some (.slice A2 s.n c2) ∧ W'.cell? ⟨rb, 3, none⟩ = some (.int .i64 s.r) ∧ W'.cell? ⟨rb, 4, none⟩ = some (.int .i64 s.k)) ∧ More wr.heap.size wr W')
          (first | assumption | exact SK.out _ (by assumption) | exact SK.out _ (more_drew (Below.refl _ _)))
          (first
            | (go_at_call 16; have hq := G1; clear G1; (with_reducible refine (hq.out _ (and_more2 (by assumption))).mono ?_); clear hq; rintro e w' ⟨h9, rfl, hO9, hB9⟩; have hM := more_trans (and_more2 (by assumption)) hB9; have hG9 := (hO9.rows FEW.out).mono (Nat.zero_le _) (Nat.le_refl _); clear hO9)
            | (go_at_call 17; have hq := hG9; clear hG9; (with_reducible refine (S1.out _ _ (and_more2 (by assumption)) hq).mono ?_); rintro e w' ⟨rfl, hB8⟩; have hM := more_trans (and_more2 (by assumption)) hB8)
            | (go_at_call 13; (with_reducible refine (does_is _).mono ?_); rintro e w' ⟨rfl, hB7⟩; have hM := more_trans (and_more2 (by assumption)) hB7)
            | fail "NONE")
        all_goals
          have hfin := and_more2 (by assumption)
          go_wp2
          go_ret
          exact ⟨rfl, BB.out.trans (Below.mono hfin BB.out.size)⟩
theorem law_feed (r0 c0 : Int) (A : Option Addr) (n c : Nat) (zs : List ByteArray) (w : World) (hL : IsList w A n c zs) :
    Calls Try.prog 3 #[.int .i64 r0, .int .i64 c0, .slice A n c] w (Yes w) := by
  cases hs : sized r0 c0 with
  | false => exact feed_none r0 c0 hs A n c zs w hL
  | true =>
    have h := sized_iff.1 hs
    obtain ⟨n0, rfl⟩ : ∃ n0 : Nat, r0 = n0 := ⟨r0.toNat, by omega⟩
    obtain ⟨m0, rfl⟩ : ∃ m0 : Nat, c0 = m0 := ⟨c0.toNat, by omega⟩
    exact feed_some n0 m0 (by omega) A n c zs w hL
end Go.Proofs.Yteekihhngjbjgaa.vtt
