/- VtScroll: a line's end. -/
import Derived.Test.YteekihhngjbjgaaVttLawKit
namespace Go.Proofs.Yteekihhngjbjgaa.vtt
open Go.RowKit Go.Lib Go.Proofs.Yteekihhngjbjgaa.grd
set_option linter.unusedVariables false
set_option linter.unusedSimpArgs false
set_option linter.unnecessarySimpa false
set_option linter.unusedSectionVars false

theorem feed_10 (s : Ts) (h : s.esc = 0) : feed s [10] = down s := by
  rw [feed_cons, feed_nil]; unfold step; rw [if_pos h]; rfl
theorem down_lt (s : Ts) (h : s.r + 1 < s.n) : down s = { s with r := s.r + 1 } := by unfold down; rw [if_pos h]
theorem down_ge (s : Ts) (h : ¬ s.r + 1 < s.n) : down s = { s with ls := scroll s.m s.ls } := by unfold down; rw [if_neg h]
/-- One cell behind a scroll. -/
theorem scroll_at (s : Ts) (ok : Ok s) (i k : Nat) (hi : i < s.n) (hk : k < s.m) : ∃ l c, (scroll s.m s.ls)[i]? = some l ∧ l.length = s.m ∧ l[k]? = some c ∧ (i + 1 < s.n → ∃ l', s.ls[i + 1]? = some l' ∧ l'.length = s.m ∧ l'[k]? = some c) ∧ (¬ i + 1 < s.n → c = 32) := by
  have hl := ok.len
  unfold scroll
  by_cases h1 : i + 1 < s.n
  · obtain ⟨l', hl'⟩ : ∃ l', s.ls[i + 1]? = some l' := ⟨_, List.getElem?_eq_getElem (by omega)⟩
    have hw := (ok.row l' (List.mem_of_getElem? hl')).1
    obtain ⟨c, hc⟩ : ∃ c, l'[k]? = some c := ⟨_, List.getElem?_eq_getElem (by omega)⟩
    refine ⟨l', c, ?_, hw, hc, fun _ => ⟨l', hl', hw, hc⟩, fun h => absurd h1 h⟩
    rw [List.getElem?_append_left (by rw [List.length_tail]; omega), List.getElem?_tail]; exact hl'
  · refine ⟨blankRow s.m, 32, ?_, by simp [blankRow], ?_, fun h => absurd h h1, fun _ => rfl⟩
    · rw [List.getElem?_append_right (by rw [List.length_tail]; omega), List.length_tail, show i - (s.ls.length - 1) = 0 by omega]; rfl
    · unfold blankRow; rw [List.getElem?_replicate, if_pos hk]
set_option maxHeartbeats 8000000 in
set_option maxRecDepth 100000 in
theorem law_scroll (x y : Nat) (hx : x < 256) (hy : y < 256) (l : List UInt8) (hl : l.length ≤ maxLen)  (w : World) :
    Calls Try.prog 8 #[.agg #[.int .u8 x, .int .u8 y], .string (B l)] w (Yes w) := by
  unfold maxLen at hl
  have hsz : (B l).size = l.length := B_size l
  have CM := Lib.hid (fun W => made_is x y hx hy W)
  have hzz : 2 ≤ 2 + x % 59 ∧ 2 + x % 59 ≤ 60 ∧ 8 ≤ 8 + y % 125 ∧ 8 + y % 125 ≤ 132 := by omega
  generalize 2 + x % 59 = n at CM hzz
  generalize 8 + y % 125 = m at CM hzz
  have HZ := Lib.hid hzz
  have hbox : Hid (Below w.heap.size w (w.alloc (.cells #[.int .u8 x, .int .u8 y] 48))) := Lib.hid ((Below.refl _ _).alloc (Nat.le_refl _) _)
  clear hzz hx hy
  obtain ⟨z, hz⟩ : ∃ z, z = l.length := ⟨_, rfl⟩
  rw [← hz] at hl hsz
  have HL := Lib.hid hz
  clear hz
  by_cases h2 : 2000 < z
  · have d2 : decide ((2000 : Int) < (z : Int)) = true := by simp; omega
    go_enter Try.func8, Try.ntmps8
    go_wp2_with fail
    go_at_call 18
    refine (CM.out _).mono ?_
    rintro e w1 ⟨b, rfl, hV, hB⟩
    have HB : Hid (Below w.heap.size w w1) := Lib.hid (hbox.out.trans (hB.mono hbox.out.size))
    clear hV hB
    go_wp2
    go_ret
    exact ⟨rfl, HB.out⟩
  · have d2 : decide ((2000 : Int) < (z : Int)) = false := by simp; omega
    have hadd : ∀ W, (binOp .add 9 (.string (B l)) (.string ⟨#[27, 91, 109]⟩)).run Try.prog W = .ok (.string (B (l ++ [27, 91, 109]))) W := fun W => add_B l [27, 91, 109] (by rw [← HL.out]; simp; omega) W
    obtain ⟨s, hs⟩ : ∃ s, s = calm (feed (new n m) l) := ⟨_, rfl⟩
    have HS := Lib.hid hs
    have OK : Hid (Ok s) := Lib.hid (by rw [hs]; exact ((Ok.new HZ.out).feed l).calm)
    have ES : Hid (s.esc = 0) := Lib.hid (by rw [hs]; rfl)
    clear hs
    go_enter Try.func8, Try.ntmps8
    go_wp2_with fail
    go_at_call 18
    refine (CM.out _).mono ?_
    rintro e w1 ⟨b, rfl, hV, hB⟩
    have BB1 : Hid (Below w.heap.size w w1) := Lib.hid (hbox.out.trans (hB.mono hbox.out.size))
    have hlo := hbox.out.size
    generalize (w.alloc (.cells #[.int .u8 x, .int .u8 y] 48)).heap.size = lo at hV hlo
    have HLO := Lib.hid hlo
    obtain ⟨hi, hhi⟩ : ∃ hi, hi = w1.heap.size := ⟨_, rfl⟩
    rw [← hhi] at hV
    have CF := Lib.hid (feed_is lo hi b (new n m) (B (l ++ [27, 91, 109])) w1 (by rw [B_size, List.length_append, ← HL.out]; simp; omega) hV)
    rw [list_B, feed_ahead _ (Ok.new HZ.out), ← HS.out] at CF
    clear hV hB hlo hhi CM
    go_wp2_with fail
    go_at_call 14
    refine CF.out.mono ?_
    rintro e w2 ⟨rfl, hV, hT⟩
    have BB2 : Hid (Below w.heap.size w w2) := Lib.hid (BB1.out.trans (hT.below HLO.out BB1.out.size))
    have HV2 := Lib.hid hV
    have HI2 := Lib.hid hV.sz
    have CG := Lib.hid (grid_is lo hi b s w2 hV)
    clear hV hT CF BB1 hadd
    go_wp2_with fail
    go_at_call 16
    refine CG.out.mono ?_
    rintro e w3 ⟨h, rfl, hO, hB⟩
    have HO := Lib.hid hO
    have HB3 := Lib.hid hB
    have HN := Lib.hid (At.new w3 34 #[.int .i64 0, .int .i64 0, .slice none 0 0, .int .i64 0, .int .i64 0])
    clear hO hB CG
    go_wp2_with (refine wpList_storeG rfl (.tmp 6) (.tmp 26) rfl w3.heap.size s.n s.m s.r s.k (some ⟨h, 0, none⟩) s.n s.n rfl rfl _ HN.out rfl ?_; intro w4 hA hBut; obtain ⟨hg, hB4, hz4⟩ := Gb.mk' HO.out HB3.out.size hA hBut; have HG := Lib.hid hg; have HB4 := Lib.hid hB4; clear hA hBut hg hB4 hz4; obtain ⟨a0, a1, a2, a3, a4⟩ := HG.out.five)
    obtain ⟨gl, hgl⟩ : ∃ gl, gl = w2.heap.size := ⟨_, rfl⟩
    have HGL : Hid (hi ≤ gl) := Lib.hid (by rw [hgl]; exact HI2.out)
    have BB : Hid (Below w.heap.size w w4) := Lib.hid ((BB2.out.trans (HB3.out.mono BB2.out.size)).trans (HB4.out.mono (Nat.le_trans BB2.out.size HB3.out.size)))
    have HV : Hid (Vt w4 lo hi b s) := Lib.hid ((HV2.out.below HB3.out HI2.out).below HB4.out (Nat.le_trans HI2.out HB3.out.size))
    rw [← hgl] at HG
    clear hgl HO HB3 HB4 HN HV2 BB2 HI2
    have CK := Lib.hid (check_ok s OK.out h w4 (HG.out.gr OK.out.few))
    go_wp2_with fail
    go_at_call 19
    refine CK.out.mono ?_
    rintro e w5 ⟨rfl, hB⟩
    have HG := Lib.hid (HG.out.below hB HG.out.lt)
    have HV := Lib.hid (HV.out.below hB HV.out.sz)
    have BB := Lib.hid (BB.out.trans (hB.mono BB.out.size))
    clear hB CK a0 a1 a2 a3 a4
    obtain ⟨a0, a1, a2, a3, a4⟩ := HG.out.five
    have CF := Lib.hid (feed_is lo hi b s ⟨#[10]⟩ w5 (by decide) HV.out)
    have e10 : feed s (ByteArray.mk #[10]).data.toList = down s := (show feed s [10] = down s from feed_10 s ES.out)
    rw [e10] at CF
    clear e10
    go_wp2_with fail
    go_at_call 14
    refine CF.out.mono ?_
    rintro e w6 ⟨rfl, hV, hT⟩
    have HG := Lib.hid (HG.out.tn hT HGL.out)
    have HV := Lib.hid hV
    have BB := Lib.hid (BB.out.trans (hT.below HLO.out BB.out.size))
    have CC := Lib.hid (clone_ok s OK.out h w6 (HG.out.gr OK.out.few))
    clear hV hT CF a0 a1 a2 a3 a4
    obtain ⟨a0, a1, a2, a3, a4⟩ := HG.out.five
    go_wp2_with fail
    go_at_call 23
    refine CC.out.mono ?_
    rintro e w7 ⟨h7, rfl, hO, hB⟩
    have HO := Lib.hid hO
    have HB7 := Lib.hid hB
    have HN := Lib.hid (At.new w7 34 #[.int .i64 0, .int .i64 0, .slice none 0 0, .int .i64 0, .int .i64 0])
    clear hO hB CC a0 a1 a2 a3 a4
    have hsz := OK.out.size
    have hcu := OK.out.cur
    have hr1 : IntKind.i64.wrap ((s.n : Int) - 1) = (s.n : Int) - 1 := by rw [IntKind.wrap_i64]; omega
    by_cases hd : s.r + 1 < s.n
    · have d3 : decide ((s.r : Int) < (s.n : Int) - 1) = true := by simp; omega
      go_wp2_with (refine wpList_storeG rfl (.tmp 7) (.tmp 36) rfl w7.heap.size s.n s.m s.r s.k (some ⟨h7, 0, none⟩) s.n s.n rfl rfl _ HN.out rfl ?_; intro w8 hA hBut; obtain ⟨hg, hB8, hz8⟩ := Gb.mk' (s := s) HO.out HB7.out.size hA hBut; have HW := Lib.hid hg; have HB8 := Lib.hid hB8; clear hA hBut hg hB8 hz8; have HG8 := Lib.hid ((HG.out.below HB7.out HG.out.lt).below HB8.out (Nat.lt_of_lt_of_le HG.out.lt HB7.out.size)); obtain ⟨a0, a1, a2, a3, a4⟩ := HG8.out.five; obtain ⟨b0, b1, b2, b3, b4⟩ := HW.out.five; have f3 := HW.out.blk.frozen 3)
      have BB8 : Hid (Below w.heap.size w w8) := Lib.hid ((BB.out.trans (HB7.out.mono BB.out.size)).trans (HB8.out.mono (Nat.le_trans BB.out.size HB7.out.size)))
      have HV8 : Hid (Vt w8 lo hi b (down s)) := Lib.hid ((HV.out.below HB7.out HV.out.sz).below HB8.out (Nat.le_trans HV.out.sz HB7.out.size))
      have hle : Hid (hi ≤ w7.heap.size) := Lib.hid (Nat.le_trans HV.out.sz HB7.out.size)
      have hlw : Hid (w.heap.size ≤ w7.heap.size) := Lib.hid (Nat.le_trans BB.out.size HB7.out.size)
      have OK1 : Hid (Ok (down s)) := Lib.hid OK.out.down
      have BX := Lib.hid ((But.refl w7.heap.size w8).setCell 3 (.int .i64 ((s.r : Int) + 1)))
      have HW1 : Hid (Gb (w8.setCell ⟨w7.heap.size, 3, none⟩ (.int .i64 ((s.r : Int) + 1))) w6.heap.size w7.heap.size h7 (down s)) := Lib.hid (by
        rw [down_lt s hd]
        exact ⟨HW.out.blk.set 3 _, HW.out.own.keep (fun b _ h2 => BX.out.block b (by omega)), HW.out.le⟩)
      have HV1 : Hid (Vt (w8.setCell ⟨w7.heap.size, 3, none⟩ (.int .i64 ((s.r : Int) + 1))) lo hi b (down s)) := Lib.hid (HV8.out.below (BX.out.below (Nat.le_refl _)) hle.out)
      have BB : Hid (Below w.heap.size w (w8.setCell ⟨w7.heap.size, 3, none⟩ (.int .i64 ((s.r : Int) + 1)))) := Lib.hid (BB8.out.trans (BX.out.below hlw.out))
      clear a0 a1 a2 a3 a4 b0 b1 b2 b3 b4 f3 HG HG8 HW HN HO HV HV8 BX BB8 hle hlw HB7 HB8 hr1 d3 hd
      generalize down s = s1 at HW1 HV1 OK1
      generalize w8.setCell ⟨w7.heap.size, 3, none⟩ (.int .i64 ((s.r : Int) + 1)) = w9 at HW1 HV1 BB ⊢
      obtain ⟨bw, hbw⟩ : ∃ bw, bw = w7.heap.size := ⟨_, rfl⟩
      rw [← hbw] at HW1 ⊢
      clear hbw
      have G1 : Hid (∀ W', More w9.heap.size w9 W' → Calls Try.prog 16 #[.pointer (some ⟨b, 0, none⟩)] W' (Shown s1 W')) := Lib.hid fun W' hM => grid_is lo hi b s1 W' (HV1.out.below hM HV1.out.sz)
      have S1 : Hid (∀ W' h1, More w9.heap.size w9 W' → Gr W' 0 W'.heap.size (some ⟨h1, 0, none⟩) s1.n s1.n s1.ls → Calls Try.prog 20 #[.agg #[.int .i64 s1.n, .int .i64 s1.m, .slice (some ⟨h1, 0, none⟩) s1.n s1.n, .int .i64 s1.r, .int .i64 s1.k], .agg #[.int .i64 s1.n, .int .i64 s1.m, .slice (some ⟨h7, 0, none⟩) s1.n s1.n, .int .i64 s1.r, .int .i64 s1.k]] W' fun e w' => e = .returned (.bool true) ∧ Below W'.heap.size W' w') := Lib.hid fun W' h1 hM hG => same_ok s1 h1 h7 W' hG ((HW1.out.below hM HW1.out.lt).gr OK1.out.few)
      have SK : Hid (∀ W', More w9.heap.size w9 W' → (W'.cell? ⟨bw, 0, none⟩ = some (.int .i64 s1.n) ∧ W'.cell? ⟨bw, 1, none⟩ = some (.int .i64 s1.m) ∧ W'.cell? ⟨bw, 2, none⟩ = some (.slice (some ⟨h7, 0, none⟩) s1.n s1.n) ∧ W'.cell? ⟨bw, 3, none⟩ = some (.int .i64 s1.r) ∧ W'.cell? ⟨bw, 4, none⟩ = some (.int .i64 s1.k)) ∧ More w9.heap.size w9 W') := Lib.hid fun W' hM => ⟨(HW1.out.below hM HW1.out.lt).five, hM⟩
      have S0 := SK.out w9 (Below.refl _ _)
      have FEW : Hid (few s1.ls) := Lib.hid OK1.out.few
      go_region_held3 (fun W' => (W'.cell? ⟨bw, 0, none⟩ = some (.int .i64 s1.n) ∧ W'.cell? ⟨bw, 1, none⟩ = some (.int .i64 s1.m) ∧ W'.cell? ⟨bw, 2, none⟩ = some (.slice (some ⟨h7, 0, none⟩) s1.n s1.n) ∧ W'.cell? ⟨bw, 3, none⟩ = some (.int .i64 s1.r) ∧ W'.cell? ⟨bw, 4, none⟩ = some (.int .i64 s1.k)) ∧ More w9.heap.size w9 W')
        (first | assumption | exact SK.out _ (by assumption) | exact SK.out _ (more_drew (Below.refl _ _)))
        (first
          | (go_at_call 16; have hq := G1; clear G1; (with_reducible refine (hq.out _ (and_more2 (by assumption))).mono ?_); clear hq; rintro e w' ⟨h9, rfl, hO9, hB9⟩; have hM := more_trans (and_more2 (by assumption)) hB9; have hG9 := (hO9.rows FEW.out).mono (Nat.zero_le _) (Nat.le_refl _); clear hO9)
          | (go_at_call 20; have hq := hG9; clear hG9; (with_reducible refine (S1.out _ _ (and_more2 (by assumption)) hq).mono ?_); rintro e w' ⟨rfl, hB8⟩; have hM := more_trans (and_more2 (by assumption)) hB8)
          | (go_at_call 13; (with_reducible refine (does_is _).mono ?_); rintro e w' ⟨rfl, hB7⟩; have hM := more_trans (and_more2 (by assumption)) hB7)
          | fail "NONE")
      all_goals
        have hfin := and_more2 (by assumption)
        go_wp2
        go_ret
        exact ⟨rfl, BB.out.trans (Below.mono hfin BB.out.size)⟩
    · have d3 : decide ((s.r : Int) < (s.n : Int) - 1) = false := by simp; omega
      go_wp2_with (first
        | (refine wpList_storeG rfl (.tmp 7) (.tmp 36) rfl w7.heap.size s.n s.m s.r s.k (some ⟨h7, 0, none⟩) s.n s.n rfl rfl _ HN.out rfl ?_; intro w8 hA hBut; obtain ⟨hg, hB8, hz8⟩ := Gb.mk' (s := s) HO.out HB7.out.size hA hBut; have HB8 := Lib.hid hB8; clear hA hBut hg hB8 hz8; have HG8 := Lib.hid ((HG.out.below HB7.out HG.out.lt).below HB8.out (Nat.lt_of_lt_of_le HG.out.lt HB7.out.size)); obtain ⟨a0, a1, a2, a3, a4⟩ := HG8.out.five))
      have BB8 : Hid (Below w.heap.size w w8) := Lib.hid ((BB.out.trans (HB7.out.mono BB.out.size)).trans (HB8.out.mono (Nat.le_trans BB.out.size HB7.out.size)))
      have HV8 : Hid (Vt w8 lo hi b (down s)) := Lib.hid ((HV.out.below HB7.out HV.out.sz).below HB8.out (Nat.le_trans HV.out.sz HB7.out.size))
      have OKx : Hid (Ok { s with ls := scroll s.m s.ls }) := Lib.hid (by have := OK.out.down; rw [down_ge s hd] at this; exact this)
      have CG : Hid (Calls Try.prog 16 #[.pointer (some ⟨b, 0, none⟩)] w8 (Shown { s with ls := scroll s.m s.ls } w8)) := Lib.hid (by have := grid_is lo hi b (down s) w8 HV8.out; rw [down_ge s hd] at this; exact this)
      clear HO HB7 HB8 HN hr1 d3
      go_at_call 16
      refine CG.out.mono ?_
      rintro e w9 ⟨h9, rfl, hO, hB⟩
      have HO := Lib.hid hO
      have HB9 := Lib.hid hB
      have HN := Lib.hid (At.new w9 34 #[.int .i64 0, .int .i64 0, .slice none 0 0, .int .i64 0, .int .i64 0])
      clear hO hB CG a0 a1 a2 a3 a4
      go_wp2_with (refine wpList_storeG rfl (.tmp 8) (.tmp 55) rfl w9.heap.size s.n s.m s.r s.k (some ⟨h9, 0, none⟩) s.n s.n rfl rfl _ HN.out rfl ?_; intro w10 hA hBut; obtain ⟨hg, hB10, hz10⟩ := Gb.mk' (s := { s with ls := scroll s.m s.ls }) HO.out HB9.out.size hA hBut; have HX := Lib.hid hg; have HB10 := Lib.hid hB10; clear hA hBut hg hB10 hz10; obtain ⟨b0, b1, b2, b3, b4⟩ := HX.out.five; have HGA := Lib.hid ((HG8.out.below HB9.out HG8.out.lt).below HB10.out (Nat.lt_of_lt_of_le HG8.out.lt HB9.out.size)))
      have BB10 : Hid (Below w.heap.size w w10) := Lib.hid ((BB8.out.trans (HB9.out.mono BB8.out.size)).trans (HB10.out.mono (Nat.le_trans BB8.out.size HB9.out.size)))
      have CK := Lib.hid (check_ok { s with ls := scroll s.m s.ls } OKx.out h9 w10 (HX.out.gr OKx.out.few))
      go_at_call 19
      refine CK.out.mono ?_
      rintro e w11 ⟨rfl, hB⟩
      have HX := Lib.hid (HX.out.below hB HX.out.lt)
      have HGA := Lib.hid (HGA.out.below hB HGA.out.lt)
      have BBB := Lib.hid (BB10.out.trans (hB.mono BB10.out.size))
      clear hB CK b0 b1 b2 b3 b4 BB10 HB9 HB10 HV8 BB8 HG8 HO HN HG HV BB
      obtain ⟨a0, a1, a2, a3, a4⟩ := HGA.out.five
      obtain ⟨b0, b1, b2, b3, b4⟩ := HX.out.five
      dsimp only at b0 b1 b2 b3 b4
      have GX := Lib.hid (HX.out.gr OKx.out.few)
      have GW := Lib.hid (HGA.out.gr OK.out.few)
      clear hcu hd
      go_wp2
      go_loopg [9, 10, 11] s.n (fun g s9 s10 s11 wr => ∃ i : Nat, i ≤ s.n ∧ s.n - i ≤ g ∧ s9 = .int .i64 i ∧ wr = w11)
      case atStart => exact ⟨0, Nat.zero_le _, by omega, rfl, rfl⟩
      case round =>
        obtain ⟨i, hi', hg, rfl, hw⟩ := hrel
        have hw := hw.symm
        subst hw
        by_cases hlt : i < s.n
        · go_wp2
          go_loopg [10, 11] s.m (fun g s10 s11 wr => ∃ j : Nat, j ≤ s.m ∧ s.m - j ≤ g ∧ s10 = .int .i64 j ∧ wr = w11)
          case atStart => exact ⟨0, Nat.zero_le _, by omega, rfl, rfl⟩
          case round =>
            obtain ⟨j, hj', hg2, rfl, hw⟩ := hrel
            have hw := hw.symm
            subst hw
            by_cases hjt : j < s.m
            · obtain ⟨lx, cx, e1, e2, e3, e4, e5⟩ := scroll_at s OK.out i j hlt hjt
              obtain ⟨p2, o2, d2', c3, c4⟩ := gr_spot GX.out e1 e3
              rw [e2] at c3
              clear e1 e2 e3
              by_cases hin : i + 1 < s.n
              · obtain ⟨ly, f1, f2, f3⟩ := e4 hin
                obtain ⟨p1, o1, d1', c1, c2⟩ := gr_spot GW.out f1 f3
                rw [f2] at c1
                have d5 : decide ((i : Int) + 1 < (s.n : Int)) = true := by simp; omega
                clear e4 e5 f1 f2 f3
                go_wp2
                go_roundg (s.m - (j + 1))
                case measure => omega
                case rel => exact ⟨j + 1, by omega, by omega, by go_num, rfl⟩
              · have f5 : cx = 32 := e5 hin
                subst f5
                have d5 : decide ((i : Int) + 1 < (s.n : Int)) = false := by simp; omega
                have c4' : w11.cell? ⟨p2, o2 + j, none⟩ = some (.int .u8 32) := c4
                clear e4 e5 c4
                go_wp2
                go_roundg (s.m - (j + 1))
                case measure => omega
                case rel => exact ⟨j + 1, by omega, by omega, by go_num, rfl⟩
            · go_wp2
              go_roundg (s.n - (i + 1))
              case measure => omega
              case rel => exact ⟨i + 1, by omega, by omega, by go_num, rfl⟩
        · go_wp2_with fail
          go_at_call 13
          refine (does_is _).mono ?_
          rintro e w12 ⟨rfl, hB⟩
          have FIN := Lib.hid (BBB.out.trans (hB.mono BBB.out.size))
          clear hB
          go_wp2
          go_ret
          exact ⟨rfl, FIN.out⟩
end Go.Proofs.Yteekihhngjbjgaa.vtt
