/- VtOdd: escapes that say nothing, and bytes that do. -/
import Derived.Test.YteekihhngjbjgaaVttLawKit
import Derived.Test.YteekihhngjbjgaaVttOddKit
namespace Go.Proofs.Yteekihhngjbjgaa.vtt
open Go.RowKit Go.Lib Go.Proofs.Yteekihhngjbjgaa.grd
set_option linter.unusedVariables false
set_option linter.unusedSimpArgs false
set_option linter.unnecessarySimpa false
set_option linter.unusedSectionVars false

set_option maxHeartbeats 8000000 in
set_option maxRecDepth 100000 in
theorem law_odd (x y : Nat) (hx : x < 256) (hy : y < 256) (l : List UInt8) (hl : l.length ≤ maxLen) (w : World) (v : Nat) (hv : v < 256) (A : Option Addr) (np cp : Nat) (D0 : List UInt8) (hnp : np = D0.length) (hnm : np ≤ maxLen) (hD0 : VRd w 0 w.heap.size A (D0.map u8)) :
    Calls Try.prog 9 #[.agg #[.int .u8 x, .int .u8 y, .int .u8 v], .string (B l), .slice A np cp] w (Yes w) := by
  unfold maxLen at hl hnm
  have HNP := Lib.hid hnp
  have HD0 := Lib.hid hD0
  clear hnp hD0
  have hsz : (B l).size = l.length := B_size l
  have CM := Lib.hid (fun W => made_is x y hx hy W)
  have hzz : 2 ≤ 2 + x % 59 ∧ 2 + x % 59 ≤ 60 ∧ 8 ≤ 8 + y % 125 ∧ 8 + y % 125 ≤ 132 := by omega
  generalize 2 + x % 59 = n at CM hzz
  generalize 8 + y % 125 = m at CM hzz
  have HZ := Lib.hid hzz
  have hbox : Hid (Below w.heap.size w (w.alloc (.cells #[.int .u8 x, .int .u8 y, .int .u8 v] 60))) := Lib.hid ((Below.refl _ _).alloc (Nat.le_refl _) _)
  have HX0 : Hid (At (w.alloc (.cells #[.int .u8 x, .int .u8 y, .int .u8 v] 60)) w.heap.size 60 #[.int .u8 x, .int .u8 y, .int .u8 v]) := Lib.hid (At.new w _ _)
  clear hzz hx hy
  obtain ⟨z, hz⟩ : ∃ z, z = l.length := ⟨_, rfl⟩
  rw [← hz] at hl hsz
  have HL := Lib.hid hz
  clear hz
  by_cases h2 : 2000 < z
  · have d2 : decide ((2000 : Int) < (z : Int)) = true := by simp; omega
    go_enter Try.func9, Try.ntmps9
    go_wp2_with fail
    go_at_call 18
    refine (CM.out _).mono ?_
    rintro e w1 ⟨b, rfl, hV, hB⟩
    obtain x2 : w1.cell? ⟨w.heap.size, 2, none⟩ = some (.int .u8 v) := (HX0.out.keep hB HX0.out.lt).cell 2
    have HB : Hid (Below w.heap.size w w1) := Lib.hid (hbox.out.trans (hB.mono hbox.out.size))
    clear hV hB
    go_wp2
    go_ret
    exact ⟨rfl, HB.out⟩
  · by_cases h20 : 20 < np
    · have d2 : decide ((2000 : Int) < (z : Int)) = false := by simp; omega
      have d20 : decide ((20 : Int) < (np : Int)) = true := by simp; omega
      go_enter Try.func9, Try.ntmps9
      go_wp2_with fail
      go_at_call 18
      refine (CM.out _).mono ?_
      rintro e w1 ⟨b, rfl, hV, hB⟩
      obtain x2 : w1.cell? ⟨w.heap.size, 2, none⟩ = some (.int .u8 v) := (HX0.out.keep hB HX0.out.lt).cell 2
      have HB : Hid (Below w.heap.size w w1) := Lib.hid (hbox.out.trans (hB.mono hbox.out.size))
      clear hV hB
      go_wp2
      go_ret
      exact ⟨rfl, HB.out⟩
    · have d2 : decide ((2000 : Int) < (z : Int)) = false := by simp; omega
      have d20 : decide ((20 : Int) < (np : Int)) = false := by simp; omega
      have hadd : ∀ W, (binOp .add 9 (.string (B l)) (.string ⟨#[27, 91, 109]⟩)).run Try.prog W = .ok (.string (B (l ++ [27, 91, 109]))) W := fun W => add_B l [27, 91, 109] (by rw [← HL.out]; simp; omega) W
      obtain ⟨s, hs⟩ : ∃ s, s = calm (feed (new n m) l) := ⟨_, rfl⟩
      have HS := Lib.hid hs
      have OK : Hid (Ok s) := Lib.hid (by rw [hs]; exact ((Ok.new HZ.out).feed l).calm)
      have ES : Hid (s.esc = 0) := Lib.hid (by rw [hs]; rfl)
      clear hs
      go_enter Try.func9, Try.ntmps9
      go_wp2_with fail
      go_at_call 18
      refine (CM.out _).mono ?_
      rintro e w1 ⟨b, rfl, hV, hB⟩
      have BB1 : Hid (Below w.heap.size w w1) := Lib.hid (hbox.out.trans (hB.mono hbox.out.size))
      have hlo := hbox.out.size
      obtain x2 : w1.cell? ⟨w.heap.size, 2, none⟩ = some (.int .u8 v) := (HX0.out.keep hB HX0.out.lt).cell 2
      have HX := Lib.hid (HX0.out.keep hB HX0.out.lt)
      have hxlo := HX0.out.lt
      generalize (w.alloc (.cells #[.int .u8 x, .int .u8 y, .int .u8 v] 60)).heap.size = lo at hV hlo hxlo
      have HXL := Lib.hid hxlo
      clear hxlo HX0
      have HLO := Lib.hid hlo
      obtain ⟨hi, hhi⟩ : ∃ hi, hi = w1.heap.size := ⟨_, rfl⟩
      rw [← hhi] at hV
      have CF := Lib.hid (feed_is lo hi b (new n m) (B (l ++ [27, 91, 109])) w1 (by rw [B_size, List.length_append, ← HL.out]; simp; omega) hV)
      rw [list_B, feed_ahead _ (Ok.new HZ.out), ← HS.out] at CF
      clear hV hB hlo hhi CM
      go_wp2_with fail
      go_at_call 14
      refine CF.out.mono ?_
      rintro e w2 ⟨rfl, hV, hT⟩
      have BB2 : Hid (Below w.heap.size w w2) := Lib.hid (BB1.out.trans (hT.below HLO.out BB1.out.size))
      have HV2 := Lib.hid hV
      have HX := Lib.hid (hT.at HX.out (Or.inl HXL.out))
      have HI2 := Lib.hid hV.sz
      have CG := Lib.hid (grid_is lo hi b s w2 hV)
      clear hV hT CF BB1 hadd
      go_wp2_with fail
      go_at_call 16
      refine CG.out.mono ?_
      rintro e w3 ⟨h, rfl, hO, hB⟩
      have HX := Lib.hid (HX.out.keep hB HX.out.lt)
      have HO := Lib.hid hO
      have HB3 := Lib.hid hB
      have HN := Lib.hid (At.new w3 34 #[.int .i64 0, .int .i64 0, .slice none 0 0, .int .i64 0, .int .i64 0])
      clear hO hB CG
      go_wp2_with (refine wpList_storeG rfl (.tmp 9) (.tmp 34) rfl w3.heap.size s.n s.m s.r s.k (some ⟨h, 0, none⟩) s.n s.n rfl rfl _ HN.out rfl ?_; intro w4 hA hBut; obtain ⟨hg, hB4, hz4⟩ := Gb.mk' HO.out HB3.out.size hA hBut; have HG := Lib.hid hg; have HB4 := Lib.hid hB4; clear hA hBut hg hB4 hz4; obtain ⟨a0, a1, a2, a3, a4⟩ := HG.out.five)
      have HX := Lib.hid (HX.out.keep HB4.out HX.out.lt)
      obtain ⟨gl, hgl⟩ : ∃ gl, gl = w2.heap.size := ⟨_, rfl⟩
      have HGL : Hid (hi ≤ gl) := Lib.hid (by rw [hgl]; exact HI2.out)
      have BB : Hid (Below w.heap.size w w4) := Lib.hid ((BB2.out.trans (HB3.out.mono BB2.out.size)).trans (HB4.out.mono (Nat.le_trans BB2.out.size HB3.out.size)))
      have HV : Hid (Vt w4 lo hi b s) := Lib.hid ((HV2.out.below HB3.out HI2.out).below HB4.out (Nat.le_trans HI2.out HB3.out.size))
      rw [← hgl] at HG
      clear hgl HO HB3 HB4 HN HV2 BB2 HI2
      clear x2 a0 a1 a2 a3 a4
      have hnp20 : np ≤ 20 := by omega
      go_wp2
      go_loopg [10, 11] np (fun g s10 s11 wr => ∃ i : Nat, i ≤ np ∧ np - i ≤ g ∧ s11 = .int .i64 i ∧ s10 = .string (B (63 :: (D0.take i).map pb)) ∧ Hid (Below w4.heap.size w4 wr))
      case atStart => exact ⟨0, Nat.zero_le _, by omega, rfl, rfl, Lib.hid (Below.refl _ _)⟩
      case round =>
        obtain ⟨i, hi', hg, rfl, rfl, HB⟩ := hrel
        by_cases hlt : i < np
        · obtain ⟨c, hc⟩ : ∃ c, D0[i]? = some c := ⟨_, List.getElem?_eq_getElem (by rw [← HNP.out]; exact hlt)⟩
          have HC : Hid ((D0.take (i + 1)).map pb = (D0.take i).map pb ++ [pb c]) := Lib.hid (by rw [take_snoc hc, List.map_append]; rfl)
          have hW : Below w.heap.size w wr := BB.out.trans (HB.out.mono BB.out.size)
          obtain ⟨b', off, rfl, _, _, hcell⟩ := (HD0.out.keep (fun b _ h2 => hW.block b h2)).at i c hc
          have hix := index_pb c
          have HNB : Hid (Below w4.heap.size w4 (wr.alloc (.cells #[.int .u8 ((pb c).toNat : Int)] 5))) := Lib.hid (HB.out.alloc HB.out.size _)
          have hcv := conv_one (pb c) wr
          generalize pb c = d at hix hcv HC HNB
          have hcx : c.toNat < 256 := c.toNat_lt
          have hlen : ((D0.take i).map pb).length ≤ i := by rw [List.length_map, List.length_take]; omega
          generalize (D0.take i).map pb = Q at HC hlen
          have HCAT : Hid (B (63 :: Q) ++ B [d] = B (63 :: (D0.take (i + 1)).map pb)) := Lib.hid (by
            rw [HC.out]
            apply ByteArray.ext
            simp [ByteArray.data_append])
          have hs1 : (B (63 :: Q)).size = Q.length + 1 := by rw [B_size]; rfl
          have hs2 : (B [d]).size = 1 := B_size _
          clear hW hc HC
          go_wp2
          go_roundg (np - (i + 1))
          case measure => omega
          case rel => exact ⟨i + 1, by omega, by omega, by go_num, by rw [HCAT.out], HNB⟩
        · obtain rfl : i = np := by omega
          have HPAR : Hid (Par ((D0.take i).map pb)) := Lib.hid (pb_par _)
          have hlen : ((D0.take i).map pb).length ≤ 20 := by rw [List.length_map, List.length_take]; omega
          generalize (D0.take i).map pb = D at HPAR hlen ⊢
          have HLEN := Lib.hid hlen
          obtain ⟨K1, hK1⟩ : ∃ K, K = D.length + 1 := ⟨_, rfl⟩
          obtain ⟨K2, hK2⟩ : ∃ K, K = D.length := ⟨_, rfl⟩
          have hs1 : (B (63 :: D)).size = K1 := by rw [B_size, hK1]; rfl
          have hs2 : (B D).size = K2 := by rw [B_size, hK2]
          have hn0 : ¬ 9223372036854775807 < 2 + K1 := by omega
          have hn1 : ¬ 9223372036854775807 < 2 + K1 + 1 := by omega
          have hn2 : ¬ 9223372036854775807 < 2 + K2 := by omega
          have hn3 : ¬ 9223372036854775807 < 2 + K2 + 1 := by omega
          have hn4 : ¬ 9223372036854775807 < 3 + K2 := by omega
          have hn5 : ¬ 9223372036854775807 < 3 + K2 + 1 := by omega
          have hn6 : ¬ 9223372036854775807 < 2 + K2 + 2 := by omega
          have hn7 : ¬ 9223372036854775807 < 2 + K2 + 2 + K2 := by omega
          have hn8 : ¬ 9223372036854775807 < 2 + K2 + 2 + K2 + 1 := by omega
          clear hK1 hK2 hlen
          have hT : ∀ W, (Instr.slice 9 (.string (B (63 :: D))) (some (.int .i64 1)) none none).run Try.prog W = .ok (.string (B D)) W := fun W => slice_drop (63 :: D) 1 1 rfl (by simp) W
          obtain ⟨q, hq⟩ : ∃ q, q = v % 15 := ⟨_, rfl⟩
          have hqi : (v : Int) % 15 = (q : Int) := by omega
          have hq15 : q < 15 := by omega
          obtain ⟨L, hL⟩ : ∃ L, (odd D)[q]? = some L := ⟨_, List.getElem?_eq_getElem (by rw [odd_len]; exact hq15)⟩
          have HST : Hid (Still s (feed s L)) := Lib.hid (odd_still s ES.out D HPAR.out L (List.mem_of_getElem? hL))
          have HLL : Hid (L.length ≤ 100) := Lib.hid (odd_short D HLEN.out L (List.mem_of_getElem? hL))
          have HCELL : Hid (((wr.alloc (.cells #[.string (ByteArray.mk #[27, 91] ++ B (63 :: D) ++ ByteArray.mk #[72]), .string (ByteArray.mk #[27, 91] ++ B (63 :: D) ++ ByteArray.mk #[74]), .string (ByteArray.mk #[27, 77]), .string (ByteArray.mk #[27, 40]), .string (ByteArray.mk #[27, 91] ++ B D ++ ByteArray.mk #[109]), .string (ByteArray.mk #[7]), .string (ByteArray.mk #[0]), .string (ByteArray.mk #[127]), .string (ByteArray.mk #[128]), .string (ByteArray.mk #[255]), .string (ByteArray.mk #[27, 91] ++ B D ++ ByteArray.mk #[5]), .string (ByteArray.mk #[27, 27, 91] ++ B D ++ ByteArray.mk #[113]), .string (ByteArray.mk #[27, 91, 49, 59, 50, 59, 51, 72]), .string (ByteArray.mk #[27, 91, 49, 59, 49, 65]), .string (ByteArray.mk #[27, 91] ++ B D ++ ByteArray.mk #[27, 91] ++ B D ++ ByteArray.mk #[114])] 9)).drew).cell? ⟨wr.heap.size, q, none⟩ = some (.string (B L))) := Lib.hid (by
            have h1 := (At.new wr 9 #[.string (ByteArray.mk #[27, 91] ++ B (63 :: D) ++ ByteArray.mk #[72]), .string (ByteArray.mk #[27, 91] ++ B (63 :: D) ++ ByteArray.mk #[74]), .string (ByteArray.mk #[27, 77]), .string (ByteArray.mk #[27, 40]), .string (ByteArray.mk #[27, 91] ++ B D ++ ByteArray.mk #[109]), .string (ByteArray.mk #[7]), .string (ByteArray.mk #[0]), .string (ByteArray.mk #[127]), .string (ByteArray.mk #[128]), .string (ByteArray.mk #[255]), .string (ByteArray.mk #[27, 91] ++ B D ++ ByteArray.mk #[5]), .string (ByteArray.mk #[27, 27, 91] ++ B D ++ ByteArray.mk #[113]), .string (ByteArray.mk #[27, 91, 49, 59, 50, 59, 51, 72]), .string (ByteArray.mk #[27, 91, 49, 59, 49, 65]), .string (ByteArray.mk #[27, 91] ++ B D ++ ByteArray.mk #[27, 91] ++ B D ++ ByteArray.mk #[114])]).cell q
            refine h1.trans ?_
            rw [odd_arr D]
            rw [List.getElem?_toArray, List.getElem?_map, hL]; rfl)
          have HB6 : Hid (Below w4.heap.size w4 ((wr.alloc (.cells #[.string (ByteArray.mk #[27, 91] ++ B (63 :: D) ++ ByteArray.mk #[72]), .string (ByteArray.mk #[27, 91] ++ B (63 :: D) ++ ByteArray.mk #[74]), .string (ByteArray.mk #[27, 77]), .string (ByteArray.mk #[27, 40]), .string (ByteArray.mk #[27, 91] ++ B D ++ ByteArray.mk #[109]), .string (ByteArray.mk #[7]), .string (ByteArray.mk #[0]), .string (ByteArray.mk #[127]), .string (ByteArray.mk #[128]), .string (ByteArray.mk #[255]), .string (ByteArray.mk #[27, 91] ++ B D ++ ByteArray.mk #[5]), .string (ByteArray.mk #[27, 27, 91] ++ B D ++ ByteArray.mk #[113]), .string (ByteArray.mk #[27, 91, 49, 59, 50, 59, 51, 72]), .string (ByteArray.mk #[27, 91, 49, 59, 49, 65]), .string (ByteArray.mk #[27, 91] ++ B D ++ ByteArray.mk #[27, 91] ++ B D ++ ByteArray.mk #[114])] 9)).drew)) := Lib.hid (below_drew (HB.out.alloc HB.out.size _))
          clear hq hL
          go_wp2_with fail
          go_still_tail 26, (by kernel_rfl)
          change wpList _ _ _ _ _ wr.drew
          go_upto_region 14 with (fail)
          generalize (wr.alloc (.cells #[.string (ByteArray.mk #[27, 91] ++ B (63 :: D) ++ ByteArray.mk #[72]), .string (ByteArray.mk #[27, 91] ++ B (63 :: D) ++ ByteArray.mk #[74]), .string (ByteArray.mk #[27, 77]), .string (ByteArray.mk #[27, 40]), .string (ByteArray.mk #[27, 91] ++ B D ++ ByteArray.mk #[109]), .string (ByteArray.mk #[7]), .string (ByteArray.mk #[0]), .string (ByteArray.mk #[127]), .string (ByteArray.mk #[128]), .string (ByteArray.mk #[255]), .string (ByteArray.mk #[27, 91] ++ B D ++ ByteArray.mk #[5]), .string (ByteArray.mk #[27, 27, 91] ++ B D ++ ByteArray.mk #[113]), .string (ByteArray.mk #[27, 91, 49, 59, 50, 59, 51, 72]), .string (ByteArray.mk #[27, 91, 49, 59, 49, 65]), .string (ByteArray.mk #[27, 91] ++ B D ++ ByteArray.mk #[27, 91] ++ B D ++ ByteArray.mk #[114])] 9)).drew = w6 at HCELL HB6 ⊢
          clear hn0 hn1 hn2 hn3 hn4 hn5 hn6 hn7 hn8 hs1 hs2 hT
          have hcell := HCELL.out
          have HG := Lib.hid (HG.out.below HB6.out HG.out.lt)
          have HV := Lib.hid (HV.out.below HB6.out HV.out.sz)
          have BB := Lib.hid (BB.out.trans (HB6.out.mono BB.out.size))
          have CF := Lib.hid (feed_is lo hi b s (B L) w6 (by rw [B_size]; have := HLL.out; omega) HV.out)
          rw [list_B] at CF
          go_wp2_with fail
          go_at_call 14
          refine CF.out.mono ?_
          rintro e w7 ⟨rfl, hV, hT⟩
          have HG := Lib.hid (HG.out.tn hT HGL.out)
          have HV := Lib.hid hV
          have BB := Lib.hid (BB.out.trans (hT.below HLO.out BB.out.size))
          clear hV hT CF hcell HCELL HB6 hqi hq15
          go_wp2_with fail
          have G1 : Hid (∀ W', More w7.heap.size w7 W' → Calls Try.prog 16 #[.pointer (some ⟨b, 0, none⟩)] W' (Shown s W')) := Lib.hid fun W' hM => (grid_is lo hi b _ W' (HV.out.below hM HV.out.sz)).mono fun _ _ hS => HST.out.shown hS
          have S1 : Hid (∀ W' h1, More w7.heap.size w7 W' → Gr W' 0 W'.heap.size (some ⟨h1, 0, none⟩) s.n s.n s.ls → Calls Try.prog 20 #[.agg #[.int .i64 s.n, .int .i64 s.m, .slice (some ⟨h1, 0, none⟩) s.n s.n, .int .i64 s.r, .int .i64 s.k], .agg #[.int .i64 s.n, .int .i64 s.m, .slice (some ⟨h, 0, none⟩) s.n s.n, .int .i64 s.r, .int .i64 s.k]] W' fun e w' => e = .returned (.bool true) ∧ Below W'.heap.size W' w') := Lib.hid fun W' h1 hM hG => same_ok s h1 h W' hG ((HG.out.below hM HG.out.lt).gr OK.out.few)
          have K1 : Hid (∀ W', More w7.heap.size w7 W' → Calls Try.prog 19 #[.agg #[.int .i64 s.n, .int .i64 s.m, .slice (some ⟨h, 0, none⟩) s.n s.n, .int .i64 s.r, .int .i64 s.k]] W' fun e w' => e = .returned (.int .i64 0) ∧ Below W'.heap.size W' w') := Lib.hid fun W' hM => check_ok s OK.out h W' ((HG.out.below hM HG.out.lt).gr OK.out.few)
          have SK : Hid (∀ W', More w7.heap.size w7 W' → (W'.cell? ⟨w3.heap.size, 0, none⟩ = some (.int .i64 s.n) ∧ W'.cell? ⟨w3.heap.size, 1, none⟩ = some (.int .i64 s.m) ∧ W'.cell? ⟨w3.heap.size, 2, none⟩ = some (.slice (some ⟨h, 0, none⟩) s.n s.n) ∧ W'.cell? ⟨w3.heap.size, 3, none⟩ = some (.int .i64 s.r) ∧ W'.cell? ⟨w3.heap.size, 4, none⟩ = some (.int .i64 s.k)) ∧ More w7.heap.size w7 W') := Lib.hid fun W' hM => ⟨(HG.out.below hM HG.out.lt).five, hM⟩
          have S0 := SK.out w7 (Below.refl _ _)
          have FEW : Hid (few s.ls) := Lib.hid OK.out.few
          go_region_held3 (fun W' => (W'.cell? ⟨w3.heap.size, 0, none⟩ = some (.int .i64 s.n) ∧ W'.cell? ⟨w3.heap.size, 1, none⟩ = some (.int .i64 s.m) ∧ W'.cell? ⟨w3.heap.size, 2, none⟩ = some (.slice (some ⟨h, 0, none⟩) s.n s.n) ∧ W'.cell? ⟨w3.heap.size, 3, none⟩ = some (.int .i64 s.r) ∧ W'.cell? ⟨w3.heap.size, 4, none⟩ = some (.int .i64 s.k)) ∧ More w7.heap.size w7 W')
            (first | assumption | exact SK.out _ (by assumption) | exact SK.out _ (more_drew (Below.refl _ _)))
            (first
              | (go_at_call 16; have hq := G1; clear G1; (with_reducible refine (hq.out _ (and_more2 (by assumption))).mono ?_); clear hq; rintro e w' ⟨h9, rfl, hO9, hB9⟩; have hM := more_trans (and_more2 (by assumption)) hB9; have hG9 := (hO9.rows FEW.out).mono (Nat.zero_le _) (Nat.le_refl _); clear hO9)
              | (go_at_call 20; have hq := hG9; clear hG9; (with_reducible refine (S1.out _ _ (and_more2 (by assumption)) hq).mono ?_); rintro e w' ⟨rfl, hB8⟩; have hM := more_trans (and_more2 (by assumption)) hB8)
              | (go_at_call 19; (with_reducible refine (K1.out _ (and_more2 (by assumption))).mono ?_); rintro e w' ⟨rfl, hB6⟩; have hM := more_trans (and_more2 (by assumption)) hB6)
              | (go_at_call 13; (with_reducible refine (does_is _).mono ?_); rintro e w' ⟨rfl, hB7⟩; have hM := more_trans (and_more2 (by assumption)) hB7)
              | fail "NONE")
          all_goals
            have hfin := and_more2 (by assumption)
            go_wp2
            go_ret
            exact ⟨rfl, BB.out.trans (Below.mono hfin BB.out.size)⟩
end Go.Proofs.Yteekihhngjbjgaa.vtt
