/- VtErase: one of its ways. -/
import Derived.Test.YteekihhngjbjgaaVttLawKit
import Derived.Test.YteekihhngjbjgaaVttErKit
namespace Go.Proofs.Yteekihhngjbjgaa.vtt
open Go.RowKit Go.Lib Go.Proofs.Yteekihhngjbjgaa.grd
set_option linter.unusedVariables false
set_option linter.unusedSimpArgs false
set_option linter.unnecessarySimpa false
set_option linter.unusedSectionVars false

set_option maxHeartbeats 8000000 in
set_option maxRecDepth 100000 in
theorem law_erase5 (x y : Nat) (hx : x < 256) (hy : y < 256) (l : List UInt8) (hl : l.length ≤ maxLen) (q : Nat) (hq256 : q < 256) (hq : q % 9 = 5) (w : World) :
    Calls Try.prog 7 #[.agg #[.int .u8 x, .int .u8 y], .string (B l), .int .u8 q] w (Yes w) := by
  unfold maxLen at hl
  have hsz : (B l).size = l.length := B_size l
  have CM := Lib.hid (fun W => made_is x y hx hy W)
  have hzz : 2 ≤ 2 + x % 59 ∧ 2 + x % 59 ≤ 60 ∧ 8 ≤ 8 + y % 125 ∧ 8 + y % 125 ≤ 132 := by omega
  generalize 2 + x % 59 = n at CM hzz
  generalize 8 + y % 125 = m at CM hzz
  have HZ := Lib.hid hzz
  have hbox : Hid (Below w.heap.size w (w.alloc (.cells #[.int .u8 x, .int .u8 y] 48))) := Lib.hid ((Below.refl _ _).alloc (Nat.le_refl _) _)
  clear hzz hx hy
  obtain ⟨z, hz⟩ : ∃ z, z = l.length := ⟨_, rfl⟩
  rw [← hz] at hl hsz
  have HL := Lib.hid hz
  clear hz
  have hqi : (q : Int) % 9 = 5 := by omega
  clear hq
  by_cases h2 : 2000 < z
  · have d2 : decide ((2000 : Int) < (z : Int)) = true := by simp; omega
    go_enter Try.func7, Try.ntmps7
    go_wp2_with fail
    go_at_call 18
    refine (CM.out _).mono ?_
    rintro e w1 ⟨b, rfl, hV, hB⟩
    have HB : Hid (Below w.heap.size w w1) := Lib.hid (hbox.out.trans (hB.mono hbox.out.size))
    clear hV hB
    go_wp2
    go_ret
    exact ⟨rfl, HB.out⟩
  · have d2 : decide ((2000 : Int) < (z : Int)) = false := by simp; omega
    have hadd : ∀ W, (binOp .add 9 (.string (B l)) (.string ⟨#[27, 91, 109]⟩)).run Try.prog W = .ok (.string (B (l ++ [27, 91, 109]))) W := fun W => add_B l [27, 91, 109] (by rw [← HL.out]; simp; omega) W
    obtain ⟨s, hs⟩ : ∃ s, s = calm (feed (new n m) l) := ⟨_, rfl⟩
    have HS := Lib.hid hs
    have OK : Hid (Ok s) := Lib.hid (by rw [hs]; exact ((Ok.new HZ.out).feed l).calm)
    have ES : Hid (s.esc = 0) := Lib.hid (by rw [hs]; rfl)
    clear hs
    go_enter Try.func7, Try.ntmps7
    go_wp2_with fail
    go_at_call 18
    refine (CM.out _).mono ?_
    rintro e w1 ⟨b, rfl, hV, hB⟩
    have BB1 : Hid (Below w.heap.size w w1) := Lib.hid (hbox.out.trans (hB.mono hbox.out.size))
    have hlo := hbox.out.size
    generalize (w.alloc (.cells #[.int .u8 x, .int .u8 y] 48)).heap.size = lo at hV hlo
    have HLO := Lib.hid hlo
    obtain ⟨hi, hhi⟩ : ∃ hi, hi = w1.heap.size := ⟨_, rfl⟩
    rw [← hhi] at hV
    have CF := Lib.hid (feed_is lo hi b (new n m) (B (l ++ [27, 91, 109])) w1 (by rw [B_size, List.length_append, ← HL.out]; simp; omega) hV)
    rw [list_B, feed_ahead _ (Ok.new HZ.out), ← HS.out] at CF
    clear hV hB hlo hhi CM
    go_wp2_with fail
    go_at_call 14
    refine CF.out.mono ?_
    rintro e w2 ⟨rfl, hV, hT⟩
    have BB2 : Hid (Below w.heap.size w w2) := Lib.hid (BB1.out.trans (hT.below HLO.out BB1.out.size))
    have HV2 := Lib.hid hV
    have HI2 := Lib.hid hV.sz
    have CG := Lib.hid (grid_is lo hi b s w2 hV)
    clear hV hT CF BB1 hadd
    go_wp2_with fail
    go_at_call 16
    refine CG.out.mono ?_
    rintro e w3 ⟨h, rfl, hO, hB⟩
    have HO := Lib.hid hO
    have HB3 := Lib.hid hB
    have HN := Lib.hid (At.new w3 34 #[.int .i64 0, .int .i64 0, .slice none 0 0, .int .i64 0, .int .i64 0])
    clear hO hB CG
    go_wp2_with (refine wpList_storeG rfl (.tmp 8) (.tmp 29) rfl w3.heap.size s.n s.m s.r s.k (some ⟨h, 0, none⟩) s.n s.n rfl rfl _ HN.out rfl ?_; intro w4 hA hBut; obtain ⟨hg, hB4, hz4⟩ := Gb.mk' HO.out HB3.out.size hA hBut; have HG := Lib.hid hg; have HB4 := Lib.hid hB4; clear hA hBut hg hB4 hz4; obtain ⟨a0, a1, a2, a3, a4⟩ := HG.out.five)
    obtain ⟨gl, hgl⟩ : ∃ gl, gl = w2.heap.size := ⟨_, rfl⟩
    have HGL : Hid (hi ≤ gl) := Lib.hid (by rw [hgl]; exact HI2.out)
    have BB : Hid (Below w.heap.size w w4) := Lib.hid ((BB2.out.trans (HB3.out.mono BB2.out.size)).trans (HB4.out.mono (Nat.le_trans BB2.out.size HB3.out.size)))
    have HV : Hid (Vt w4 lo hi b s) := Lib.hid ((HV2.out.below HB3.out HI2.out).below HB4.out (Nat.le_trans HI2.out HB3.out.size))
    rw [← hgl] at HG
    clear hgl HO HB3 HB4 HN HV2 BB2 HI2
    have CK := Lib.hid (check_ok s OK.out h w4 (HG.out.gr OK.out.few))
    go_wp2_with fail
    go_at_call 19
    refine CK.out.mono ?_
    rintro e w5 ⟨rfl, hB⟩
    have HG := Lib.hid (HG.out.below hB HG.out.lt)
    have HV := Lib.hid (HV.out.below hB HV.out.sz)
    have BB := Lib.hid (BB.out.trans (hB.mono BB.out.size))
    clear hB CK a0 a1 a2 a3 a4
    obtain ⟨a0, a1, a2, a3, a4⟩ := HG.out.five
    have HL9 := Lib.hid ((Below.refl w5.heap.size w5).alloc (Nat.le_refl _) (.cells #[.string ⟨#[74]⟩, .string ⟨#[48, 74]⟩, .string ⟨#[50, 74]⟩, .string ⟨#[75]⟩, .string ⟨#[48, 75]⟩, .string ⟨#[50, 75]⟩, .string ⟨#[49, 74]⟩, .string ⟨#[51, 75]⟩, .string ⟨#[48, 59, 48, 75]⟩] 9))
    have HG6 := Lib.hid (HG.out.below HL9.out HG.out.lt)
    have HV6 := Lib.hid (HV.out.below HL9.out HV.out.sz)
    have BB6 := Lib.hid (BB.out.trans (HL9.out.mono BB.out.size))
    have CF := Lib.hid (feed_is lo hi b s ⟨#[27, 91, 50, 75]⟩ _ (by decide) HV6.out)
    have e10 : feed s (ByteArray.mk #[27, 91, 50, 75]).data.toList = { s with ls := wipeIf (pK s.r) s.ls, p := digest [50], esc := 0 } := (show feed s [27, 91, 50, 75] = _ from er5 s OK.out.esc)
    have hcat : (ByteArray.mk #[27, 91, 50, 75]) = (ByteArray.mk #[27, 91]) ++ (ByteArray.mk #[50, 75]) := by rfl
    rw [e10, hcat] at CF
    clear e10 hcat a0 a1 a2 a3 a4
    go_wp2_with fail
    go_at_call 14
    refine CF.out.mono ?_
    rintro e w7 ⟨rfl, hV, hT⟩
    have HG := Lib.hid (HG6.out.tn hT HGL.out)
    have HV := Lib.hid hV
    have BB := Lib.hid (BB6.out.trans (hT.below HLO.out BB6.out.size))
    have CC := Lib.hid (clone_ok s OK.out h w7 (HG.out.gr OK.out.few))
    clear hV hT CF HG6 HV6 BB6 HL9
    obtain ⟨a0, a1, a2, a3, a4⟩ := HG.out.five
    go_wp2_with fail
    go_at_call 23
    refine CC.out.mono ?_
    rintro e w8 ⟨h8, rfl, hO, hB⟩
    have HO := Lib.hid hO
    have HB8 := Lib.hid hB
    have HN := Lib.hid (At.new w8 34 #[.int .i64 0, .int .i64 0, .slice none 0 0, .int .i64 0, .int .i64 0])
    clear hO hB CC a0 a1 a2 a3 a4
    go_wp2_with (refine wpList_storeG rfl (.tmp 11) (.tmp 48) rfl w8.heap.size s.n s.m s.r s.k (some ⟨h8, 0, none⟩) s.n s.n rfl rfl _ HN.out rfl ?_; intro w9 hA hBut; obtain ⟨hg, hB9, hz9⟩ := Gb.mk' (s := s) HO.out HB8.out.size hA hBut; have HW := Lib.hid hg; have HB9 := Lib.hid hB9; clear hA hBut hg hB9 hz9; have HG9 := Lib.hid ((HG.out.below HB8.out HG.out.lt).below HB9.out (Nat.lt_of_lt_of_le HG.out.lt HB8.out.size)); obtain ⟨a0, a1, a2, a3, a4⟩ := HG9.out.five; obtain ⟨b0, b1, b2, b3, b4⟩ := HW.out.five)
    have BB9 := Lib.hid ((BB.out.trans (HB8.out.mono BB.out.size)).trans (HB9.out.mono (Nat.le_trans BB.out.size HB8.out.size)))
    have HV9 := Lib.hid ((HV.out.below HB8.out HV.out.sz).below HB9.out (Nat.le_trans HV.out.sz HB8.out.size))
    have HIL : Hid (hi ≤ w7.heap.size) := Lib.hid HV.out.sz
    have HWL : Hid (w3.heap.size < w7.heap.size) := Lib.hid HG.out.lt
    have HLW : Hid (w.heap.size ≤ w7.heap.size) := Lib.hid BB.out.size
    have hsz := OK.out.size
    have ER0 : Hid (Er w9 w7.heap.size w8.heap.size h8 s (rows (pK s.r) 0) w9) := Lib.hid (Er.start HW.out _ (rows_zero _))
    clear HO HB8 HB9 HN HG HV BB a0 a1 a2 a3 a4 b0 b1 b2 b3 b4 HW
    go_loopg [12, 13, 14] s.n (fun g s12 s13 s14 wr => ∃ i : Nat, i ≤ s.n ∧ s.n - i ≤ g ∧ s12 = .int .i64 i ∧ Hid (Er w9 w7.heap.size w8.heap.size h8 s (rows (pK s.r) i) wr))
    case atStart => exact ⟨0, Nat.zero_le _, by omega, rfl, ER0⟩
    case round =>
      obtain ⟨i, hi', hg, rfl, HE⟩ := hrel
      clear ER0
      have HGr := Lib.hid (HG9.out.tn2 HE.out.tn HWL.out)
      obtain ⟨a0, a1, _, a3, a4⟩ := HGr.out.five
      by_cases hlt : i < s.n
      · have HE0 : Hid (Er w9 w7.heap.size w8.heap.size h8 s (cells (pK s.r) i 0) wr) := Lib.hid (HE.out.same OK.out (fun a c _ _ => cells_zero _ _ _ _))
        clear HE HGr
        go_wp2
        clear a0 a1 a3 a4
        go_loopg [13, 14] s.m (fun g s13 s14 wr' => ∃ j : Nat, j ≤ s.m ∧ s.m - j ≤ g ∧ s13 = .int .i64 j ∧ Hid (Er w9 w7.heap.size w8.heap.size h8 s (cells (pK s.r) i j) wr'))
        case atStart => exact ⟨0, Nat.zero_le _, by omega, rfl, HE0⟩
        case round =>
          obtain ⟨j, hj', hg2, rfl, HE⟩ := hrel
          clear HE0
          have HGr := Lib.hid (HG9.out.tn2 HE.out.tn HWL.out)
          obtain ⟨a0, a1, _, a3, a4⟩ := HGr.out.five
          have b2 : wr.cell? ⟨w8.heap.size, 2, none⟩ = some (.slice (some ⟨h8, 0, none⟩) s.n s.n) := HE.out.gb.blk.cell 2
          by_cases hjt : j < s.m
          · obtain ⟨r, hr⟩ : ∃ r, r = s.r := ⟨_, rfl⟩
            obtain ⟨k, hk⟩ : ∃ k, k = s.k := ⟨_, rfl⟩
            rw [← hr] at a3
            rw [← hk] at a4
            have HR := Lib.hid hr
            have HK := Lib.hid hk
            clear hr hk
            by_cases hir : i = r
            · subst hir
              by_cases hjk : k ≤ j
              · have g1 : decide (k ≤ j) = true := by simpa using hjk
                have hp : (pK s.r) i j = true := by
                    first | rfl | (have h1 := HR.out; have h2 := HK.out; simp [pJ, p0, pK]; omega)
                obtain ⟨b9, d9, v9, c1, c2, c3, c4, c5, hE⟩ := HE.out.put OK.out i j hlt hjt (Q' := cells (pK s.r) i (j + 1)) (fun a c _ _ => cells_yes _ _ _ hp a c)
                have HE1 := Lib.hid hE
                clear HE hE hp HGr
                go_wp2
                go_roundg (s.m - (j + 1))
                case measure => omega
                case rel => exact ⟨j + 1, by omega, by omega, by go_num, HE1⟩
              · have g1 : decide (k ≤ j) = false := by simpa using hjk
                have hp : (pK s.r) i j = true := by
                    first | rfl | (have h1 := HR.out; have h2 := HK.out; simp [pJ, p0, pK]; omega)
                obtain ⟨b9, d9, v9, c1, c2, c3, c4, c5, hE⟩ := HE.out.put OK.out i j hlt hjt (Q' := cells (pK s.r) i (j + 1)) (fun a c _ _ => cells_yes _ _ _ hp a c)
                have HE1 := Lib.hid hE
                clear HE hE hp HGr
                go_wp2
                go_roundg (s.m - (j + 1))
                case measure => omega
                case rel => exact ⟨j + 1, by omega, by omega, by go_num, HE1⟩
            · have q1 : ((i : Int) == (r : Int)) = false := by simp; omega
              have q2 : (i == r) = false := by simp; omega
              by_cases hgt : r < i
              · have g2 : decide (r < i) = true := by simpa using hgt
                have hp : (pK s.r) i j = false := by
                    first | rfl | (have h1 := HR.out; have h2 := HK.out; simp [pJ, p0, pK]; omega)
                have HE1 : Hid (Er w9 w7.heap.size w8.heap.size h8 s (cells (pK s.r) i (j + 1)) wr) := Lib.hid (HE.out.same OK.out (fun a c _ _ => cells_no _ _ _ hp a c))
                clear HE hp HGr
                go_wp2
                go_roundg (s.m - (j + 1))
                case measure => omega
                case rel => exact ⟨j + 1, by omega, by omega, by go_num, HE1⟩
              · have g2 : decide (r < i) = false := by simpa using hgt
                have hp : (pK s.r) i j = false := by
                    first | rfl | (have h1 := HR.out; have h2 := HK.out; simp [pJ, p0, pK]; omega)
                have HE1 : Hid (Er w9 w7.heap.size w8.heap.size h8 s (cells (pK s.r) i (j + 1)) wr) := Lib.hid (HE.out.same OK.out (fun a c _ _ => cells_no _ _ _ hp a c))
                clear HE hp HGr
                go_wp2
                go_roundg (s.m - (j + 1))
                case measure => omega
                case rel => exact ⟨j + 1, by omega, by omega, by go_num, HE1⟩
          · have HE1 : Hid (Er w9 w7.heap.size w8.heap.size h8 s (rows (pK s.r) (i + 1)) wr) := Lib.hid (HE.out.same OK.out (fun a c _ hc => by rw [show j = s.m by omega]; exact cells_all _ _ _ _ _ hc))
            clear HE
            go_wp2
            go_roundg (s.n - (i + 1))
            case measure => omega
            case rel => exact ⟨i + 1, by omega, by omega, by go_num, HE1⟩
      · have HW1 : Hid (Gb wr w7.heap.size w8.heap.size h8 { s with ls := wipeIf (pK s.r) s.ls, p := digest [50], esc := 0 }) := Lib.hid (HE.out.fin OK.out (fun a c ha _ => by rw [show i = s.n by omega]; exact rows_all _ _ _ _ ha) _ _)
        have HV1 : Hid (Vt wr lo hi b { s with ls := wipeIf (pK s.r) s.ls, p := digest [50], esc := 0 }) := Lib.hid (HV9.out.far HE.out.tn (Or.inl HIL.out))
        have OK1 := Lib.hid HV1.out.ok
        have BB : Hid (Below w.heap.size w wr) := Lib.hid (BB9.out.trans (HE.out.tn.below HLW.out BB9.out.size))
        clear HE HG9 HGr
        go_wp2_with fail
        clear a0 a1 a3 a4 hsz hlt hi' hg
        generalize { s with ls := wipeIf (pK s.r) s.ls, p := digest [50], esc := 0 } = s1 at HW1 HV1 OK1
        have G1 : Hid (∀ W', More wr.heap.size wr W' → Calls Try.prog 16 #[.pointer (some ⟨b, 0, none⟩)] W' (Shown s1 W')) := Lib.hid fun W' hM => grid_is lo hi b s1 W' (HV1.out.below hM HV1.out.sz)
        have S1 : Hid (∀ W' h1, More wr.heap.size wr W' → Gr W' 0 W'.heap.size (some ⟨h1, 0, none⟩) s1.n s1.n s1.ls → Calls Try.prog 20 #[.agg #[.int .i64 s1.n, .int .i64 s1.m, .slice (some ⟨h1, 0, none⟩) s1.n s1.n, .int .i64 s1.r, .int .i64 s1.k], .agg #[.int .i64 s1.n, .int .i64 s1.m, .slice (some ⟨h8, 0, none⟩) s1.n s1.n, .int .i64 s1.r, .int .i64 s1.k]] W' fun e w' => e = .returned (.bool true) ∧ Below W'.heap.size W' w') := Lib.hid fun W' h1 hM hG => same_ok s1 h1 h8 W' hG ((HW1.out.below hM HW1.out.lt).gr OK1.out.few)
        have SK : Hid (∀ W', More wr.heap.size wr W' → (W'.cell? ⟨w8.heap.size, 0, none⟩ = some (.int .i64 s1.n) ∧ W'.cell? ⟨w8.heap.size, 1, none⟩ = some (.int .i64 s1.m) ∧ W'.cell? ⟨w8.heap.size, 2, none⟩ = some (.slice (some ⟨h8, 0, none⟩) s1.n s1.n) ∧ W'.cell? ⟨w8.heap.size, 3, none⟩ = some (.int .i64 s1.r) ∧ W'.cell? ⟨w8.heap.size, 4, none⟩ = some (.int .i64 s1.k)) ∧ More wr.heap.size wr W') := Lib.hid fun W' hM => ⟨(HW1.out.below hM HW1.out.lt).five, hM⟩
        have S0 := SK.out wr (Below.refl _ _)
        have FEW : Hid (few s1.ls) := Lib.hid OK1.out.few
        go_region_held3 (fun W' => (W'.cell? ⟨w8.heap.size, 0, none⟩ = some (.int .i64 s1.n) ∧ W'.cell? ⟨w8.heap.size, 1, none⟩ = some (.int .i64 s1.m) ∧ W'.cell? ⟨w8.heap.size, 2, none⟩ = some (.slice (some ⟨h8, 0, none⟩) s1.n s1.n) ∧ W'.cell? ⟨w8.heap.size, 3, none⟩ = some (.int .i64 s1.r) ∧ W'.cell? ⟨w8.heap.size, 4, none⟩ = some (.int .i64 s1.k)) ∧ More wr.heap.size wr W')
          (first | assumption | exact SK.out _ (by assumption) | exact SK.out _ (more_drew (Below.refl _ _)))
          (first
            | (go_at_call 16; have hq := G1; clear G1; (with_reducible refine (hq.out _ (and_more2 (by assumption))).mono ?_); clear hq; rintro e w' ⟨h9, rfl, hO9, hB9⟩; have hM := more_trans (and_more2 (by assumption)) hB9; have hG9 := (hO9.rows FEW.out).mono (Nat.zero_le _) (Nat.le_refl _); clear hO9)
            | (go_at_call 20; have hq := hG9; clear hG9; (with_reducible refine (S1.out _ _ (and_more2 (by assumption)) hq).mono ?_); rintro e w' ⟨rfl, hB8⟩; have hM := more_trans (and_more2 (by assumption)) hB8)
            | (go_at_call 13; (with_reducible refine (does_is _).mono ?_); rintro e w' ⟨rfl, hB7⟩; have hM := more_trans (and_more2 (by assumption)) hB7)
            | fail "NONE")
        all_goals
          have hfin := and_more2 (by assumption)
          go_wp2
          go_ret
          exact ⟨rfl, BB.out.trans (Below.mono hfin BB.out.size)⟩
end Go.Proofs.Yteekihhngjbjgaa.vtt
