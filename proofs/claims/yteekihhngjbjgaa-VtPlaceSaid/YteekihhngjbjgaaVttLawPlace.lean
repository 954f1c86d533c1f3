/- VtPlace: a byte behind a place that was said. -/
import Derived.Test.YteekihhngjbjgaaVttLawKit
import Derived.Test.YteekihhngjbjgaaVttNumber
import Derived.RegionTactic
import Derived.BigRegion
namespace Go.Proofs.Yteekihhngjbjgaa.vtt
open Go.RowKit Go.Lib Go.Proofs.Yteekihhngjbjgaa.grd
set_option linter.unusedVariables false
set_option linter.unusedSimpArgs false
set_option linter.unnecessarySimpa false
set_option linter.unusedSectionVars false

theorem set_put (s : Ts) (ok : Ok s) (row col : Nat) (hr : row < s.n) (hc : col < s.m) : putC ⟨s.n, s.m, s.ls, s.r, s.k⟩ row col 35 = setAt s.ls row col 35 := by
  have := putC_yes (g := ⟨s.n, s.m, s.ls, s.r, s.k⟩) (row := row) (col := col) (b := 35) (putOk_iff.2 ⟨ok.may, ⟨by omega, by show (row : Int) < (s.n : Int); omega, by omega, by show (col : Int) < (s.m : Int); omega⟩, rfl⟩)
  rw [this, Int.toNat_natCast, Int.toNat_natCast]
set_option maxHeartbeats 8000000 in
set_option maxRecDepth 100000 in
theorem law_place (x y : Nat) (hx : x < 256) (hy : y < 256) (l : List UInt8) (hl : l.length ≤ maxLen) (p q : Nat) (hp : p < 65536) (hq : q < 65536) (w : World) :
    Calls Try.prog 6 #[.agg #[.int .u8 x, .int .u8 y], .string (B l), .agg #[.int .u16 p, .int .u16 q]] w (Yes w) := by
  unfold maxLen at hl
  have hsz : (B l).size = l.length := B_size l
  have CM := Lib.hid (fun W => made_is x y hx hy W)
  have hzz : 2 ≤ 2 + x % 59 ∧ 2 + x % 59 ≤ 60 ∧ 8 ≤ 8 + y % 125 ∧ 8 + y % 125 ≤ 132 := by omega
  generalize 2 + x % 59 = n at CM hzz
  generalize 8 + y % 125 = m at CM hzz
  have HZ := Lib.hid hzz
  have hbox : Hid (Below w.heap.size w ((w.alloc (.cells #[.int .u8 x, .int .u8 y] 48)).alloc (.cells #[.int .u16 p, .int .u16 q] 53))) := Lib.hid (((Below.refl _ _).alloc (Nat.le_refl _) _).alloc (by simp) _)
  have HX0 : Hid (At ((w.alloc (.cells #[.int .u8 x, .int .u8 y] 48)).alloc (.cells #[.int .u16 p, .int .u16 q] 53)) (w.heap.size + 1) 53 #[.int .u16 p, .int .u16 q]) := Lib.hid (by have := At.new (w.alloc (.cells #[.int .u8 x, .int .u8 y] 48)) 53 #[.int .u16 p, .int .u16 q]; simpa using this)
  clear hzz hx hy
  obtain ⟨z, hz⟩ : ∃ z, z = l.length := ⟨_, rfl⟩
  rw [← hz] at hl hsz
  have HL := Lib.hid hz
  clear hz
  by_cases h2 : 2000 < z
  · have d2 : decide ((2000 : Int) < (z : Int)) = true := by simp; omega
    go_enter Try.func6, Try.ntmps6
    go_wp2_with fail
    go_at_call 18
    refine (CM.out _).mono ?_
    rintro e w1 ⟨b, rfl, hV, hB⟩
    have HB : Hid (Below w.heap.size w w1) := Lib.hid (hbox.out.trans (hB.mono hbox.out.size))
    clear hV hB
    go_wp2
    go_ret
    exact ⟨rfl, HB.out⟩
  · have d2 : decide ((2000 : Int) < (z : Int)) = false := by simp; omega
    have hadd : ∀ W, (binOp .add 9 (.string (B l)) (.string ⟨#[27, 91, 109]⟩)).run Try.prog W = .ok (.string (B (l ++ [27, 91, 109]))) W := fun W => add_B l [27, 91, 109] (by rw [← HL.out]; simp; omega) W
    obtain ⟨s, hs⟩ : ∃ s, s = calm (feed (new n m) l) := ⟨_, rfl⟩
    have HS := Lib.hid hs
    have OK : Hid (Ok s) := Lib.hid (by rw [hs]; exact ((Ok.new HZ.out).feed l).calm)
    have ES : Hid (s.esc = 0) := Lib.hid (by rw [hs]; rfl)
    clear hs
    go_enter Try.func6, Try.ntmps6
    go_wp2_with fail
    go_at_call 18
    refine (CM.out _).mono ?_
    rintro e w1 ⟨b, rfl, hV, hB⟩
    have BB1 : Hid (Below w.heap.size w w1) := Lib.hid (hbox.out.trans (hB.mono hbox.out.size))
    have hlo := hbox.out.size
    have HX := Lib.hid (HX0.out.keep hB HX0.out.lt)
    have hxlo := HX0.out.lt
    generalize ((w.alloc (.cells #[.int .u8 x, .int .u8 y] 48)).alloc (.cells #[.int .u16 p, .int .u16 q] 53)).heap.size = lo at hV hlo hxlo
    have HXL := Lib.hid hxlo
    clear hxlo HX0
    have HLO := Lib.hid hlo
    obtain ⟨hi, hhi⟩ : ∃ hi, hi = w1.heap.size := ⟨_, rfl⟩
    rw [← hhi] at hV
    have CF := Lib.hid (feed_is lo hi b (new n m) (B (l ++ [27, 91, 109])) w1 (by rw [B_size, List.length_append, ← HL.out]; simp; omega) hV)
    rw [list_B, feed_ahead _ (Ok.new HZ.out), ← HS.out] at CF
    clear hV hB hlo hhi CM
    go_wp2_with fail
    go_at_call 14
    refine CF.out.mono ?_
    rintro e w2 ⟨rfl, hV, hT⟩
    have BB2 : Hid (Below w.heap.size w w2) := Lib.hid (BB1.out.trans (hT.below HLO.out BB1.out.size))
    have HV2 := Lib.hid hV
    have HX := Lib.hid (hT.at HX.out (Or.inl HXL.out))
    have HI2 := Lib.hid hV.sz
    have CG := Lib.hid (grid_is lo hi b s w2 hV)
    clear hV hT CF BB1 hadd
    go_wp2_with fail
    go_at_call 16
    refine CG.out.mono ?_
    rintro e w3 ⟨h, rfl, hO, hB⟩
    have HX := Lib.hid (HX.out.keep hB HX.out.lt)
    have HO := Lib.hid hO
    have HB3 := Lib.hid hB
    have HN := Lib.hid (At.new w3 34 #[.int .i64 0, .int .i64 0, .slice none 0 0, .int .i64 0, .int .i64 0])
    clear hO hB CG
    go_wp2_with (refine wpList_storeG rfl (.tmp 8) (.tmp 28) rfl w3.heap.size s.n s.m s.r s.k (some ⟨h, 0, none⟩) s.n s.n rfl rfl _ HN.out rfl ?_; intro w4 hA hBut; obtain ⟨hg, hB4, hz4⟩ := Gb.mk' HO.out HB3.out.size hA hBut; have HG := Lib.hid hg; have HB4 := Lib.hid hB4; clear hA hBut hg hB4 hz4; obtain ⟨a0, a1, a2, a3, a4⟩ := HG.out.five)
    have HX := Lib.hid (HX.out.keep HB4.out HX.out.lt)
    obtain ⟨gl, hgl⟩ : ∃ gl, gl = w2.heap.size := ⟨_, rfl⟩
    have HGL : Hid (hi ≤ gl) := Lib.hid (by rw [hgl]; exact HI2.out)
    have BB : Hid (Below w.heap.size w w4) := Lib.hid ((BB2.out.trans (HB3.out.mono BB2.out.size)).trans (HB4.out.mono (Nat.le_trans BB2.out.size HB3.out.size)))
    have HV : Hid (Vt w4 lo hi b s) := Lib.hid ((HV2.out.below HB3.out HI2.out).below HB4.out (Nat.le_trans HI2.out HB3.out.size))
    rw [← hgl] at HG
    clear hgl HO HB3 HB4 HN HV2 BB2 HI2
    have CK := Lib.hid (check_ok s OK.out h w4 (HG.out.gr OK.out.few))
    go_wp2_with fail
    go_at_call 19
    refine CK.out.mono ?_
    rintro e w5 ⟨rfl, hB⟩
    have HG := Lib.hid (HG.out.below hB HG.out.lt)
    have HV := Lib.hid (HV.out.below hB HV.out.sz)
    have BB := Lib.hid (BB.out.trans (hB.mono BB.out.size))
    have HX := Lib.hid (HX.out.keep hB HX.out.lt)
    clear hB CK a0 a1 a2 a3 a4
    obtain ⟨a0, a1, a2, a3, a4⟩ := HG.out.five
    obtain ⟨R, hR⟩ : ∃ R, R = p % 10000 := ⟨_, rfl⟩
    obtain ⟨C, hC⟩ : ∃ C, C = q % 10000 := ⟨_, rfl⟩
    have hRi : (p : Int) % 10000 = (R : Int) := by omega
    have hCi : (q : Int) % 10000 = (C : Int) := by omega
    have hR9 : R ≤ 9999 := by omega
    have hC9 : C ≤ 9999 := by omega
    clear hR hC hp hq
    obtain ⟨x0, x1⟩ : w5.cell? ⟨w.heap.size + 1, 0, none⟩ = some (.int .u16 p) ∧ w5.cell? ⟨w.heap.size + 1, 1, none⟩ = some (.int .u16 q) := ⟨HX.out.cell 0, HX.out.cell 1⟩
    obtain ⟨R1, hR1⟩ : ∃ v, v = max R 1 := ⟨_, rfl⟩
    obtain ⟨C1, hC1⟩ : ∃ v, v = max C 1 := ⟨_, rfl⟩
    obtain ⟨r1, hr1⟩ : ∃ v, v = min R1 s.n := ⟨_, rfl⟩
    obtain ⟨c1, hc1⟩ : ∃ v, v = min C1 s.m := ⟨_, rfl⟩
    obtain ⟨row, hrow⟩ : ∃ v, v = r1 - 1 := ⟨_, rfl⟩
    obtain ⟨col, hcol⟩ : ∃ v, v = c1 - 1 := ⟨_, rfl⟩
    have hsz := OK.out.size
    have hR1i : max (R : Int) 1 = (R1 : Int) := by omega
    have hC1i : max (C : Int) 1 = (C1 : Int) := by omega
    have hr1i : min (R1 : Int) (s.n : Int) = (r1 : Int) := by omega
    have hc1i : min (C1 : Int) (s.m : Int) = (c1 : Int) := by omega
    have hrw : IntKind.i64.wrap ((r1 : Int) - 1) = (row : Int) := by rw [IntKind.wrap_i64]; omega
    have hcw : IntKind.i64.wrap ((c1 : Int) - 1) = (col : Int) := by rw [IntKind.wrap_i64]; omega
    have HROW : Hid (row < s.n ∧ col < s.m) := Lib.hid (by omega)
    have HRR : Hid (row = min (max R 1) s.n - 1) := Lib.hid (by rw [hrow, hr1, hR1])
    have HCC : Hid (col = min (max C 1) s.m - 1) := Lib.hid (by rw [hcol, hc1, hC1])
    clear hR1 hC1 hr1 hc1 hrow hcol
    go_wp2_with fail
    go_quiet (fail)
    have HG := Lib.hid (Gb.drewN HG.out nq)
    have HV := Lib.hid (HV.out.drewN nq)
    have BB := Lib.hid (below_drewN BB.out nq)
    clear a0 a1 a2 a3 a4 x0 x1
    generalize w5.drewN nq = w6 at HG HV BB ⊢
    obtain ⟨a0, a1, a2, a3, a4⟩ := HG.out.five
    go_wp2_with fail
    go_quiet (fail)
    skip
    have HG := Lib.hid (Gb.drewN HG.out nq)
    have HV := Lib.hid (HV.out.drewN nq)
    have BB := Lib.hid (below_drewN BB.out nq)
    clear a0 a1 a2 a3 a4 hR1i hC1i hr1i hc1i hrw hcw hRi hCi
    generalize w6.drewN nq = w7 at HG HV BB ⊢
    have CN := Lib.hid (number_is R hR9 w7)
    have HFP := Lib.hid (feed_place s OK.out.esc R C hR9 hC9)
    have hd1 : (dec R).length ≤ 4 := dec_len R (by omega)
    have hd2 : (dec C).length ≤ 4 := dec_len C (by omega)
    have HNC := Lib.hid (fun W => number_is C hC9 W)
    generalize dec R = D1 at CN HFP hd1
    generalize dec C = D2 at HNC HFP hd2
    have hs1 : (B D1).size = D1.length := B_size _
    have hs2 : (B D2).size = D2.length := B_size _
    go_wp2_with fail
    go_at_call 21
    refine CN.out.mono ?_
    rintro e w8 ⟨rfl, hB⟩
    have HG := Lib.hid (HG.out.below hB HG.out.lt)
    have HV := Lib.hid (HV.out.below hB HV.out.sz)
    have BB := Lib.hid (BB.out.trans (hB.mono BB.out.size))
    clear hB CN
    go_wp2_with fail
    go_at_call 21
    refine (HNC.out _).mono ?_
    rintro e w9 ⟨rfl, hB⟩
    have HG := Lib.hid (HG.out.below hB HG.out.lt)
    have HV := Lib.hid (HV.out.below hB HV.out.sz)
    have BB := Lib.hid (BB.out.trans (hB.mono BB.out.size))
    clear hB HNC
    go_wp2_with fail
    obtain ⟨cc, hcc⟩ : ∃ v, v = min (col + 1) (s.m - 1) := ⟨_, rfl⟩
    have hro := HROW.out
    have hcci : min ((col : Int) + 1) ((s.m : Int) - 1) = (cc : Int) := by omega
    have hw1 : IntKind.i64.wrap ((col : Int) + 1) = (col : Int) + 1 := by rw [IntKind.wrap_i64]; omega
    have hw2 : IntKind.i64.wrap ((s.m : Int) - 1) = (s.m : Int) - 1 := by rw [IntKind.wrap_i64]; omega
    obtain ⟨sp, hsp⟩ : ∃ sp : Ts, sp = ⟨s.n, s.m, setAt s.ls row col 35, row, cc, 0, ⟨R, C, 1, false⟩⟩ := ⟨_, rfl⟩
    have HSP := Lib.hid hsp
    have HCAT : Hid (ByteArray.mk #[27, 91] ++ B D1 ++ ByteArray.mk #[59] ++ B D2 ++ ByteArray.mk #[72, 35] = B ([27, 91] ++ D1 ++ [59] ++ D2 ++ [72, 35])) := Lib.hid (by
      apply ByteArray.ext
      simp [ByteArray.data_append])
    have CF := Lib.hid (feed_is lo hi b s (B ([27, 91] ++ D1 ++ [59] ++ D2 ++ [72, 35])) w9 (by rw [B_size]; simp; omega) HV.out)
    rw [list_B, HFP.out, ← HRR.out, ← HCC.out, ← hcc, ← hsp, ← HCAT.out] at CF
    clear hcc hsp hs1 hs2 hd1 hd2 HFP HCAT HRR HCC hro
    go_at_call 14
    refine CF.out.mono ?_
    rintro e w10 ⟨rfl, hV, hT⟩
    have HG := Lib.hid (HG.out.tn hT HGL.out)
    have HV := Lib.hid hV
    have BB := Lib.hid (BB.out.trans (hT.below HLO.out BB.out.size))
    have CP : Hid (Calls Try.prog 22 #[.agg #[.int .i64 s.n, .int .i64 s.m, .slice (some ⟨h, 0, none⟩) s.n s.n, .int .i64 s.r, .int .i64 s.k], .int .i64 row, .int .i64 col, .int .u8 35] w10 fun e w' => ∃ h', e = .returned (.agg #[.int .i64 s.n, .int .i64 s.m, .slice (some ⟨h', 0, none⟩) s.n s.n, .int .i64 s.r, .int .i64 s.k]) ∧ Own w' w10.heap.size w'.heap.size (some ⟨h', 0, none⟩) s.n s.n (setAt s.ls row col 35) ∧ Below w10.heap.size w10 w') := Lib.hid (by
      have := put_is s.n s.m s.r s.k (some ⟨h, 0, none⟩) s.n s.n s.ls row col 35 w10 OK.out.few (HG.out.gr OK.out.few)
      rw [set_put s OK.out row col HROW.out.1 HROW.out.2] at this
      exact this)
    clear hV hT CF
    obtain ⟨a0, a1, a2, a3, a4⟩ := HG.out.five
    go_wp2_with fail
    go_at_call 22
    refine CP.out.mono ?_
    rintro e w11 ⟨h11, rfl, hO, hB⟩
    have HO := Lib.hid hO
    have HB11 := Lib.hid hB
    have HN := Lib.hid (At.new w11 34 #[.int .i64 0, .int .i64 0, .slice none 0 0, .int .i64 0, .int .i64 0])
    clear hO hB CP a0 a1 a2 a3 a4
    go_wp2_with (refine wpList_storeG rfl (.tmp 13) (.tmp 66) rfl w11.heap.size s.n s.m s.r s.k (some ⟨h11, 0, none⟩) s.n s.n rfl rfl _ HN.out rfl ?_; intro w12 hA hBut; obtain ⟨hg, hB12, hz12⟩ := Gb.mk' (s := { s with ls := setAt s.ls row col 35 }) HO.out HB11.out.size hA hBut; have HW := Lib.hid hg; have HB12 := Lib.hid hB12; clear hA hBut hg hB12 hz12; have HG12 := Lib.hid ((HG.out.below HB11.out HG.out.lt).below HB12.out (Nat.lt_of_lt_of_le HG.out.lt HB11.out.size)))
    have BB12 := Lib.hid ((BB.out.trans (HB11.out.mono BB.out.size)).trans (HB12.out.mono (Nat.le_trans BB.out.size HB11.out.size)))
    have HV12 := Lib.hid ((HV.out.below HB11.out HV.out.sz).below HB12.out (Nat.le_trans HV.out.sz HB11.out.size))
    have hle : Hid (hi ≤ w11.heap.size) := Lib.hid (Nat.le_trans HV.out.sz HB11.out.size)
    have hlw : Hid (w.heap.size ≤ w11.heap.size) := Lib.hid (Nat.le_trans BB.out.size HB11.out.size)
    obtain ⟨a0, a1, a2, a3, a4⟩ := HG12.out.five
    obtain ⟨b0, b1, b2, b3, b4⟩ := HW.out.five
    have f3 := HW.out.blk.frozen 3
    have f4 := HW.out.blk.frozen 4
    have hne : ¬ w3.heap.size = w11.heap.size := by have := HG.out.lt; have := HB11.out.size; omega
    have hne2 : ¬ w11.heap.size = w3.heap.size := fun e => hne e.symm
    clear HO HB11 HB12 HN HG HV BB
    have HBX := Lib.hid ((((But.refl w11.heap.size w12).setCell 3 (.int .i64 row)).setCell 4 (.int .i64 cc)).drew)
    have HW1 : Hid (Gb ((w12.setCell ⟨w11.heap.size, 3, none⟩ (.int .i64 row)).setCell ⟨w11.heap.size, 4, none⟩ (.int .i64 cc)).drew w10.heap.size w11.heap.size h11 sp) := Lib.hid (by
      rw [HSP.out]
      exact ⟨((HW.out.blk.set 3 (.int .i64 row)).set 4 (.int .i64 cc)).same rfl, HW.out.own.keep (fun b _ h2 => HBX.out.block b (by omega)), HW.out.le⟩)
    have HV1 : Hid (Vt ((w12.setCell ⟨w11.heap.size, 3, none⟩ (.int .i64 row)).setCell ⟨w11.heap.size, 4, none⟩ (.int .i64 cc)).drew lo hi b sp) := Lib.hid (HV12.out.below (HBX.out.below (Nat.le_refl _)) hle.out)
    have OK1 := Lib.hid HV1.out.ok
    have BB : Hid (Below w.heap.size w ((w12.setCell ⟨w11.heap.size, 3, none⟩ (.int .i64 row)).setCell ⟨w11.heap.size, 4, none⟩ (.int .i64 cc)).drew) := Lib.hid (BB12.out.trans (HBX.out.below hlw.out))
    clear HBX HW HG12 BB12 HV12 hle hlw
    go_region
    all_goals clear a0 a1 a2 a3 a4 b0 b1 b2 b3 b4 f3 f4 hcci hw1 hw2
    all_goals
      generalize ((w12.setCell ⟨w11.heap.size, 3, none⟩ (.int .i64 row)).setCell ⟨w11.heap.size, 4, none⟩ (.int .i64 cc)).drew = w13 at HW1 HV1 BB ⊢
      go_wp2_with fail
      have G1 : Hid (∀ W', More w13.heap.size w13 W' → Calls Try.prog 16 #[.pointer (some ⟨b, 0, none⟩)] W' (Shown sp W')) := Lib.hid fun W' hM => grid_is lo hi b sp W' (HV1.out.below hM HV1.out.sz)
      have S1 : Hid (∀ W' h1, More w13.heap.size w13 W' → Gr W' 0 W'.heap.size (some ⟨h1, 0, none⟩) sp.n sp.n sp.ls → Calls Try.prog 20 #[.agg #[.int .i64 sp.n, .int .i64 sp.m, .slice (some ⟨h1, 0, none⟩) sp.n sp.n, .int .i64 sp.r, .int .i64 sp.k], .agg #[.int .i64 sp.n, .int .i64 sp.m, .slice (some ⟨h11, 0, none⟩) sp.n sp.n, .int .i64 sp.r, .int .i64 sp.k]] W' fun e w' => e = .returned (.bool true) ∧ Below W'.heap.size W' w') := Lib.hid fun W' h1 hM hG => same_ok sp h1 h11 W' hG ((HW1.out.below hM HW1.out.lt).gr OK1.out.few)
      have SK : Hid (∀ W', More w13.heap.size w13 W' → (W'.cell? ⟨w11.heap.size, 0, none⟩ = some (.int .i64 sp.n) ∧ W'.cell? ⟨w11.heap.size, 1, none⟩ = some (.int .i64 sp.m) ∧ W'.cell? ⟨w11.heap.size, 2, none⟩ = some (.slice (some ⟨h11, 0, none⟩) sp.n sp.n) ∧ W'.cell? ⟨w11.heap.size, 3, none⟩ = some (.int .i64 sp.r) ∧ W'.cell? ⟨w11.heap.size, 4, none⟩ = some (.int .i64 sp.k)) ∧ More w13.heap.size w13 W') := Lib.hid fun W' hM => ⟨(HW1.out.below hM HW1.out.lt).five, hM⟩
      have S0 := SK.out w13 (Below.refl _ _)
      have FEW : Hid (few sp.ls) := Lib.hid OK1.out.few
      go_region_held3 (fun W' => (W'.cell? ⟨w11.heap.size, 0, none⟩ = some (.int .i64 sp.n) ∧ W'.cell? ⟨w11.heap.size, 1, none⟩ = some (.int .i64 sp.m) ∧ W'.cell? ⟨w11.heap.size, 2, none⟩ = some (.slice (some ⟨h11, 0, none⟩) sp.n sp.n) ∧ W'.cell? ⟨w11.heap.size, 3, none⟩ = some (.int .i64 sp.r) ∧ W'.cell? ⟨w11.heap.size, 4, none⟩ = some (.int .i64 sp.k)) ∧ More w13.heap.size w13 W')
        (first | assumption | exact SK.out _ (by assumption) | exact SK.out _ (more_drew (Below.refl _ _)))
        (first
          | (go_at_call 16; have hq := G1; clear G1; (with_reducible refine (hq.out _ (and_more2 (by assumption))).mono ?_); clear hq; rintro e w' ⟨h9, rfl, hO9, hB9⟩; have hM := more_trans (and_more2 (by assumption)) hB9; have hG9 := (hO9.rows FEW.out).mono (Nat.zero_le _) (Nat.le_refl _); clear hO9)
          | (go_at_call 20; have hq := hG9; clear hG9; (with_reducible refine (S1.out _ _ (and_more2 (by assumption)) hq).mono ?_); rintro e w' ⟨rfl, hB8⟩; have hM := more_trans (and_more2 (by assumption)) hB8)
          | (go_at_call 13; (with_reducible refine (does_is _).mono ?_); rintro e w' ⟨rfl, hB7⟩; have hM := more_trans (and_more2 (by assumption)) hB7)
          | fail "NONE")
      all_goals
        have hfin := and_more2 (by assumption)
        go_wp2
        go_ret
        exact ⟨rfl, BB.out.trans (Below.mono hfin BB.out.size)⟩
end Go.Proofs.Yteekihhngjbjgaa.vtt
