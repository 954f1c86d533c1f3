/- ClassesJoin. -/
import Derived.Test.YtmemdmjfccepgaaClsJoinKit
namespace Go.Proofs.Ytmemdmjfccepgaa.cls
open Go.RowKit Go.Lib
set_option linter.unusedVariables false
set_option linter.unusedSimpArgs false
set_option linter.unnecessarySimpa false
set_option linter.unusedSectionVars false

set_option maxHeartbeats 8000000 in
set_option maxRecDepth 100000 in
theorem law9 (A : Option Addr) (n c : Nat) (zs : List UInt8) (wh : Nat) (w : World) (hn : n = zs.length) (hb : n ≤ maxLen) (hr : Rd w A zs) (hV : Vs w.heap.size w) (hwh : wh < 256) :
    Calls Try.prog 9 #[.int .u8 (wh : Int), .slice A n c] w fun e w' => e = .returned (.bool true) ∧ Below w.heap.size w w' := by
  unfold maxLen at hb
  have HV := Lib.hid hV
  have HN := Lib.hid hn
  have HRD := Lib.hid hr
  have DD := Lib.hid (does_is w hV)
  clear hn hr hV
  by_cases hbig : 50 < n
  · go_enter Try.func9, Try.ntmps9
    go_wp2_with (go_at_call 12; refine DD.out.mono ?_; rintro e w' ⟨rfl, hB⟩)
    go_ret
    exact ⟨rfl, hB⟩
  · clear DD
    obtain ⟨ls, hls⟩ : ∃ ls, zs.map letB = ls := ⟨_, rfl⟩
    have lls : ls.length = n := by rw [← hls, List.length_map]; exact HN.out.symm
    have hal : ∀ x ∈ ls, isAl x := fun x hx => by
      rw [← hls] at hx
      obtain ⟨z, _, rfl⟩ := List.mem_map.1 hx
      exact letB_al z
    have hget : ∀ k, k < n → (ls.getD k 0).toNat = letN (zs.getD k 0).toNat := fun k hk => by
      have hkz : k < zs.length := by rw [← HN.out]; exact hk
      rw [← hls]
      simp only [List.getD, List.getElem?_map, List.getElem?_eq_getElem hkz, Option.map_some, Option.getD_some]
      exact letB_nat _
    have HG := Lib.hid hget
    have HLS := Lib.hid lls
    obtain ⟨r, hr12⟩ : ∃ r, wh % 12 = r := ⟨_, rfl⟩
    have hr6 : r < 12 := by omega
    obtain ⟨hsome, h58, hlen⟩ := nm_ok r hr6
    obtain ⟨nm, hnm⟩ : ∃ nm, nm12.getD r [] = nm := ⟨_, rfl⟩
    rw [hnm] at hsome h58 hlen
    obtain ⟨f, hf⟩ := Option.isSome_iff_exists.1 hsome
    have P1 := Lib.hid (parse_cls1 ls nm f hal h58 hf)
    have P2 := Lib.hid (parse_cls2 ls nm f hal h58 hf)
    rw [or2_comm (memF ls) f] at P1
    have CC := Lib.hid (class_b nm f true (by simp [clsG, hf]) hsome)
    obtain ⟨m, hm⟩ : ∃ m, nm.length = m := ⟨_, rfl⟩
    have hm6 : m ≤ 6 := by rw [← hm]; exact hlen
    have hbn : (B nm).size = m := by rw [B_size]; exact hm
    have HM := Lib.hid hm
    have HNM := Lib.hid hnm
    have HR := Lib.hid hr12
    clear hls lls hal hget hsome h58 hlen hf hm hnm hr12
    go_enter Try.func9, Try.ntmps9
    go_wp2_with (first | (refine wpList_row12 rfl rfl ?_; intro w0 hs0 hb0 hc0; have hcell := hc0 r hr6; rw [HNM.out] at hcell; have HB0 := Lib.hid hb0; have HS0 := Lib.hid hs0; clear hc0 hb0 hs0) | (refine wpList_rem12 rfl _ _ rfl wh hwh rfl rfl ?_; rw [HR.out]) | fail)
    go_at_call 13
    refine (CC.out w0 (by rw [HM.out]; omega)).mono ?_
    rintro e w1 ⟨rfl, hb1⟩
    go_wp2_with (first | (refine wpList_allocA rfl rfl ?_; intro w2 hs2 ha2 hb2) | (refine wpList_storeA rfl _ _ rfl _ _ rfl rfl _ ha2 ?_; intro w3 ha3 hb3))
    have z1 : w.heap.size + 1 ≤ w1.heap.size := by have := hb1.size; rw [HS0.out] at this; exact this
    have HZ := Lib.hid z1
    have H0 := Lib.hid ha3
    have HB := Lib.hid (HB0.out.trans ((hb1.mono (by rw [HS0.out]; omega)).trans ((hb2.mono (by omega)).trans (hb3.below (by omega)))))
    have HS := Lib.hid (show w3.heap.size = w1.heap.size + 1 by rw [hb3.size, hs2])
    clear hb1 hb2 hb3 ha2 ha3 hs2 z1 hcell
    go_loopg [9, 10] n (fun g s9 s10 wr => ∃ (k : Nat) (s0 : List UInt8), s9 = .string (B s0) ∧ s10 = .int .i64 k ∧ k ≤ n ∧ n - k ≤ g ∧ s0.length = k + 1 ∧ Hid (s0 = 91 :: ls.take k ∧ Arr wr w1.heap.size (or2 f (memF (ls.take k))) ∧ Below w.heap.size w wr ∧ w1.heap.size + 1 ≤ wr.heap.size))
    case atStart => exact ⟨0, [91], rfl, rfl, Nat.zero_le _, by omega, rfl, Lib.hid ⟨by simp, by rw [List.take_zero, or2_mem_nil]; exact H0.out, HB.out, by rw [HS.out]; omega⟩⟩
    case round =>
      obtain ⟨k, s0, rfl, rfl, hk, hg, hs0l, HI⟩ := hrel
      by_cases hlt : k < n
      · obtain ⟨ab, off, rfl, hab, hcells⟩ := HRD.out (by rw [← HN.out]; omega)
        have hcell := (HI.out.2.2.1.cell (p := ⟨ab, off + k, none⟩) hab).trans (hcells k (by rw [← HN.out]; exact hlt))
        have hz6 : (zs.getD k 0).toNat < 256 := (zs.getD k 0).toNat_lt
        have LK := fun W => letter_is W (zs.getD k 0).toNat hz6
        have hgk := HG.out k hlt
        obtain ⟨z, hz⟩ : ∃ z, (zs.getD k 0).toNat = z := ⟨_, rfl⟩
        rw [hz] at hcell LK hgk hz6
        obtain ⟨u, hu⟩ : ∃ u, ls.getD k 0 = u := ⟨_, rfl⟩
        rw [hu] at hgk
        rw [← hgk] at LK
        have u6 : u.toNat < 256 := u.toNat_lt
        have hap : B s0 ++ B [u] = B (s0 ++ [u]) := B_app s0 [u]
        have hs2l : (s0 ++ [u]).length = k + 1 + 1 := by simp [hs0l]
        have hss : (B s0).size = k + 1 := by rw [B_size]; exact hs0l
        obtain ⟨s2, hs2⟩ : ∃ s2, s0 ++ [u] = s2 := ⟨_, rfl⟩
        rw [hs2] at hap hs2l
        obtain ⟨un, hun⟩ : ∃ un, u.toNat = un := ⟨_, rfl⟩
        rw [hun] at LK u6
        have hu1 : (B [u]).size = 1 := rfl
        have HLK := Lib.hid LK
        have HUN := Lib.hid hun
        have HAB := Lib.hid hab
        have HCELL := Lib.hid hcell
        have htk : ls.take (k + 1) = ls.take k ++ [u] := by
          rw [List.take_add_one, ← hu]
          simp [List.getD, List.getElem?_eq_getElem (show k < ls.length by rw [HLS.out]; exact hlt)]
        have HT := Lib.hid (And.intro htk hs2)
        clear LK hz hgk hu hun htk hs2 hab hcells
        go_wp2_with fail
        go_at_call 15
        refine (HLK.out _).mono ?_
        rintro e w3 ⟨rfl, rfl⟩
        obtain ⟨bu, hbu⟩ : ∃ bu, B [u] = bu := ⟨_, rfl⟩
        rw [hbu] at hap hu1
        go_wp2_with (refine wpList_bytes1 rfl _ rfl u _ (by rw [HUN.out]) rfl ?_; intro w4 hs4 hb4 hcv4; rw [hbu] at hcv4; have hc4 := (hb4.cell (p := ⟨ab, off + k, none⟩) (by have := HI.out.2.2.1.size; have := HAB.out; show ab < _; omega)).trans HCELL.out)
        go_at_call 15
        refine (HLK.out _).mono ?_
        rintro e w5 ⟨rfl, rfl⟩
        have A4 := HI.out.2.1.keep hb4 (by have := HI.out.2.2.2; omega)
        have c4 := A4.cell u6
        have st4 := setCell_put A4 un true u6
        have fz4 := A4.frozen un
        have HP := Lib.hid (And.intro (putA_arr (g := upd (or2 f (memF (ls.take k))) un true) A4.lt) (putA_but (w := w5) (b := w1.heap.size) (g := upd (or2 f (memF (ls.take k))) un true)))
        obtain ⟨vx, hvx⟩ : ∃ vx, or2 f (memF (ls.take k)) un = vx := ⟨_, rfl⟩
        rw [hvx] at c4
        obtain ⟨wx, hwx⟩ : ∃ wx, putA w5 w1.heap.size (upd (or2 f (memF (ls.take k))) un true) = wx := ⟨_, rfl⟩
        rw [hwx] at st4 HP
        have HB4 := Lib.hid hb4
        have HS4 := Lib.hid hs4
        clear A4 hvx hwx hc4 hcell hcv4 hb4 hs4
        go_wp2
        go_roundg (n - (k + 1))
        case measure => omega
        case rel =>
          have z9 := HI.out.2.2.2
          have z8 := HZ.out
          have z7 := HS4.out
          refine ⟨k + 1, s2, rfl, by go_num, by omega, by omega, hs2l, Lib.hid ⟨?_, ?_, HI.out.2.2.1.trans ((HB4.out.mono (by omega)).trans (HP.out.2.below (by omega))), ?_⟩⟩
          · rw [← HT.out.2, HI.out.1, HT.out.1]; rfl
          · have e : upd (or2 f (memF (ls.take k))) un true = or2 f (memF (ls.take (k + 1))) := by
              rw [upd_or, ← HUN.out, HT.out.1, memF_snoc]
              funext b
              simp [or2, Bool.or_assoc]
            rw [← e]
            exact HP.out.1
          · rw [HP.out.2.size, HS4.out]; omega
      · obtain rfl : k = n := by omega
        have htn : ls.take k = ls := List.take_of_length_le (by rw [HLS.out]; exact Nat.le_refl _)
        have hs0e : s0 = 91 :: ls := by rw [HI.out.1, htn]
        have N0 : Hid (Arr wr w1.heap.size (or2 f (memF ls))) := Lib.hid (by have := HI.out.2.1; rwa [htn] at this)
        have NB := Lib.hid HI.out.2.2.1
        have NZ := Lib.hid HI.out.2.2.2
        have hss : (B s0).size = k + 1 := by rw [B_size]; exact hs0l
        have hap1 : B s0 ++ (⟨#[91, 58]⟩ : ByteArray) = B (s0 ++ [91, 58]) := B_app s0 [91, 58]
        have hap2 : B (s0 ++ [91, 58]) ++ B nm = B (s0 ++ [91, 58] ++ nm) := B_app _ _
        have hap3 : B (s0 ++ [91, 58] ++ nm) ++ (⟨#[58, 93, 93]⟩ : ByteArray) = B (s0 ++ [91, 58] ++ nm ++ [58, 93, 93]) := B_app _ [58, 93, 93]
        obtain ⟨c1, hc1⟩ : ∃ c1, B (s0 ++ [91, 58]) = c1 := ⟨_, rfl⟩
        have c1s : c1.size = k + 3 := by rw [← hc1, B_size]; simp [hs0l]
        obtain ⟨c2, hc2⟩ : ∃ c2, B (s0 ++ [91, 58] ++ nm) = c2 := ⟨_, rfl⟩
        have c2s : c2.size = k + 3 + m := by rw [← hc2, B_size]; simp [hs0l, HM.out]; omega
        obtain ⟨l1, hl1⟩ : ∃ l1, s0 ++ [91, 58] ++ nm ++ [58, 93, 93] = l1 := ⟨_, rfl⟩
        have lt1 : l1.length = k + m + 6 := by rw [← hl1]; simp [hs0l, HM.out]; omega
        rw [hc1] at hap1 hap2
        rw [hc2] at hap2 hap3
        rw [hl1] at hap3
        have R1 : parseL l1 = some (or2 f (memF ls), []) := by
          rw [← hl1, hs0e, ← P1.out]
          congr 1
          simp
        have C1 := Lib.hid (fun (W : World) (hW : Vs W.heap.size W) => parse0 l1 _ R1 W (by omega) hW)
        rw [retP_some, lt1, show (((k + m + 6 : Nat) : Int) - (([] : List UInt8).length : Int)) = (k : Int) + m + 6 by simp] at C1
        have haq1 : (⟨#[91, 91, 58]⟩ : ByteArray) ++ B nm = B ([91, 91, 58] ++ nm) := B_app [91, 91, 58] nm
        have haq2 : B ([91, 91, 58] ++ nm) ++ (⟨#[58, 93]⟩ : ByteArray) = B ([91, 91, 58] ++ nm ++ [58, 93]) := B_app _ [58, 93]
        have haq3 : B ([91, 91, 58] ++ nm ++ [58, 93]) ++ B ls = B ([91, 91, 58] ++ nm ++ [58, 93] ++ ls) := B_app _ _
        have haq4 : B ([91, 91, 58] ++ nm ++ [58, 93] ++ ls) ++ (⟨#[93]⟩ : ByteArray) = B ([91, 91, 58] ++ nm ++ [58, 93] ++ ls ++ [93]) := B_app _ [93]
        obtain ⟨d1, hd1⟩ : ∃ d1, B ([91, 91, 58] ++ nm) = d1 := ⟨_, rfl⟩
        have d1s : d1.size = m + 3 := by rw [← hd1, B_size]; simp [HM.out]
        obtain ⟨d2, hd2⟩ : ∃ d2, B ([91, 91, 58] ++ nm ++ [58, 93]) = d2 := ⟨_, rfl⟩
        have d2s : d2.size = m + 5 := by rw [← hd2, B_size]; simp [HM.out]
        obtain ⟨d3, hd3⟩ : ∃ d3, B ([91, 91, 58] ++ nm ++ [58, 93] ++ ls) = d3 := ⟨_, rfl⟩
        have d3s : d3.size = m + 5 + k := by rw [← hd3, B_size]; simp [HM.out, HLS.out]; omega
        obtain ⟨l2, hl2⟩ : ∃ l2, [91, 91, 58] ++ nm ++ [58, 93] ++ ls ++ [93] = l2 := ⟨_, rfl⟩
        have lt2 : l2.length = k + m + 6 := by rw [← hl2]; simp [HM.out, HLS.out]; omega
        rw [hd1] at haq1 haq2
        rw [hd2] at haq2 haq3
        rw [hd3] at haq3 haq4
        rw [hl2] at haq4
        have R2 : parseL l2 = some (or2 f (memF ls), []) := by
          rw [← hl2, ← P2.out]
          congr 1
          simp
        have C2 := Lib.hid (fun (W : World) (hW : Vs W.heap.size W) => parse0 l2 _ R2 W (by omega) hW)
        rw [retP_some, lt2, show (((k + m + 6 : Nat) : Int) - (([] : List UInt8).length : Int)) = (k : Int) + m + 6 by simp] at C2
        have sd := slice_drop s0 1 1 rfl (by omega)
        rw [show s0.drop 1 = ls by rw [hs0e]; rfl] at sd
        have hbl : (B ls).size = k := by rw [B_size]; exact HLS.out
        clear htn hs0e hl1 R1 R2 hl2 hc1 hc2 hd1 hd2 hd3
        go_wp2_with fail
        go_at_call 10
        refine (C1.out _ ((HV.out.below NB.out).more NB.out.size)).mono ?_
        rintro e w4 ⟨rfl, hb4⟩
        have hz4 := hb4.size
        have hz0 := NZ.out
        have hzw := HZ.out
        go_wp2_with (first | (refine wpList_allocA rfl rfl ?_; intro w5 hs5 ha5 hb5) | (refine wpList_storeA rfl _ _ rfl _ _ rfl rfl _ ha5 ?_; intro w6 ha6 hb6; have q6 : w6.heap.size = w4.heap.size + 1 := (by rw [hb6.size, hs5]); have M0 := Lib.hid (((N0.out.keep hb4 (by omega)).keep hb5 (by omega)).but hb6 (by omega)); have MA := Lib.hid ha6; have MB := Lib.hid (NB.out.trans ((hb4.mono (by omega)).trans ((hb5.mono (by omega)).trans (hb6.below (by omega))))); have Q6 := Lib.hid q6; clear ha5 hb5 ha6 hb6 hs5 hb4 q6))
        go_at_call 10
        refine (C2.out _ ((HV.out.below MB.out).more MB.out.size)).mono ?_
        rintro e w7 ⟨rfl, hb7⟩
        have hz7 : w4.heap.size + 1 ≤ w7.heap.size := by have := hb7.size; rw [Q6.out] at this; exact this
        go_wp2_with (first | (refine wpList_allocA rfl rfl ?_; intro w8 hs8 ha8 hb8) | (refine wpList_storeA rfl _ _ rfl _ _ rfl rfl _ ha8 ?_; intro w9 ha9 hb9; have hA7 := (((M0.out.keep hb7 (by rw [Q6.out]; omega)).keep hb8 (by omega)).but hb9 (by omega)); have hA11 := (((MA.out.keep hb7 (by rw [Q6.out]; omega)).keep hb8 (by omega)).but hb9 (by omega)); have hA14 := ha9; have KB := Lib.hid (MB.out.trans ((hb7.mono MB.out.size).trans ((hb8.mono (by omega)).trans (hb9.below (by omega))))); clear ha8 hb8 hb9 hs8 hb7) | (refine wpList_loadM (by rfl) _ rfl _ rfl _ hA11 ?_) | (refine wpList_loadM (by rfl) _ rfl _ rfl _ hA7 ?_) | (refine wpList_loadM (by rfl) _ rfl _ rfl _ hA14 ?_) | (refine wpList_eqM (by rfl) _ _ _ rfl (or2 f (memF ls)) rfl rfl ?_) | fail)
        go_at_call 12
        refine (does_is _ ((HV.out.below KB.out).more KB.out.size)).mono ?_
        rintro e w12 ⟨rfl, hb12⟩
        have KB3 := Lib.hid (KB.out.trans (hb12.mono KB.out.size))
        clear hb12
        go_wp2
        go_ret
        exact ⟨rfl, KB3.out⟩
end Go.Proofs.Ytmemdmjfccepgaa.cls
