/- ClassesList. -/
import Derived.Test.YtmemdmjfccepgaaClsBytes
import Derived.Test.YtmemdmjfccepgaaClsLay
namespace Go.Proofs.Ytmemdmjfccepgaa.cls
open Go.RowKit Go.Lib
set_option linter.unusedVariables false
set_option linter.unusedSimpArgs false
set_option linter.unnecessarySimpa false
set_option linter.unusedSectionVars false

set_option maxHeartbeats 8000000 in
set_option maxRecDepth 100000 in
theorem law7 (A : Option Addr) (n c : Nat) (zs : List UInt8) (fr to : Nat) (w : World) (hn : n = zs.length) (hb : n ≤ maxLen) (hr : Rd w A zs) (hV : Vs w.heap.size w) (hf6 : fr < 256) (ht6 : to < 256) :
    Calls Try.prog 7 #[.slice A n c, .int .u8 (fr : Int), .int .u8 (to : Int)] w fun e w' => e = .returned (.bool true) ∧ Below w.heap.size w w' := by
  unfold maxLen at hb
  have HV := Lib.hid hV
  have HN := Lib.hid hn
  have HRD := Lib.hid hr
  have DD := Lib.hid (does_is w hV)
  clear hn hr hV
  by_cases hbig : 100 < n
  · go_enter Try.func7, Try.ntmps7
    go_wp2_with (go_at_call 12; refine DD.out.mono ?_; rintro e w' ⟨rfl, hB⟩)
    go_ret
    exact ⟨rfl, hB⟩
  · by_cases h0 : n = 0
    · subst h0
      go_enter Try.func7, Try.ntmps7
      go_wp2_with (go_at_call 12; refine DD.out.mono ?_; rintro e w' ⟨rfl, hB⟩)
      go_ret
      exact ⟨rfl, hB⟩
    · obtain ⟨ab, off, rfl, hab, hcells⟩ := HRD.out (by rw [← HN.out]; omega)
      have t0 : ((n : Int) == 0) = false := by simpa using (by omega : ¬ (n : Int) = 0)
      have HC := Lib.hid hcells
      have HAB := Lib.hid hab
      obtain ⟨ls, hls⟩ : ∃ ls, zs.map letB = ls := ⟨_, rfl⟩
      have lls : ls.length = n := by rw [← hls, List.length_map]; exact HN.out.symm
      have hal : ∀ x ∈ ls, isAl x := fun x hx => by
        rw [← hls] at hx
        obtain ⟨z, _, rfl⟩ := List.mem_map.1 hx
        exact letB_al z
      have hne : ls ≠ [] := fun e => by rw [e] at lls; simp at lls; omega
      have hget : ∀ k, k < n → (ls.getD k 0).toNat = letN (zs.getD k 0).toNat := fun k hk => by
        have hkz : k < zs.length := by rw [← HN.out]; exact hk
        rw [← hls]
        simp only [List.getD, List.getElem?_map, List.getElem?_eq_getElem hkz, Option.map_some, Option.getD_some]
        exact letB_nat _
      have HG := Lib.hid hget
      have HLS := Lib.hid lls
      have P1 := Lib.hid (parse_let ls hal hne)
      obtain ⟨x, hx⟩ : ∃ x, letB (UInt8.ofNat fr) = x := ⟨_, rfl⟩
      obtain ⟨y, hy⟩ : ∃ y, letB (UInt8.ofNat to) = y := ⟨_, rfl⟩
      have hxn : x.toNat = letN fr := by rw [← hx, letB_nat]; congr 1; simp; omega
      have hyn : y.toNat = letN to := by rw [← hy, letB_nat]; congr 1; simp; omega
      have P2 := Lib.hid (parse_rng x y (by rw [← hx]; exact letB_al _) (by rw [← hy]; exact letB_al _))
      obtain ⟨xa, hxa⟩ : ∃ xa, letN fr = xa := ⟨_, rfl⟩
      obtain ⟨ya, hya⟩ : ∃ ya, letN to = ya := ⟨_, rfl⟩
      have x6 : xa < 256 := by rw [← hxa]; exact letN_lt fr
      have y6 : ya < 256 := by rw [← hya]; exact letN_lt to
      have L1 := Lib.hid (fun W => letter_is W fr hf6)
      have L2 := Lib.hid (fun W => letter_is W to ht6)
      rw [hxa] at hxn L1
      rw [hya] at hyn L2
      have HX := Lib.hid hxn
      have HY := Lib.hid hyn
      clear hls lls hal hne hget hx hy hxn hyn hxa hya hcells hab
      go_enter Try.func7, Try.ntmps7
      go_wp2_with (refine wpList_allocA rfl rfl ?_; (first | (have := hs0; intro w1 hs1 ha1 hb1; clear this) | (intro w0 hs0 ha0 hb0)))
      have HB := Lib.hid (hb0.trans (hb1.mono (by omega)))
      have H0 := Lib.hid (ha0.keep hb1 (by omega))
      have H1 : Hid (Arr w1 (w.heap.size + 1) noB) := Lib.hid (by rw [← hs0]; exact ha1)
      have HS := Lib.hid (show w1.heap.size = w.heap.size + 2 by omega)
      clear ha0 hb0 ha1 hb1 hs1
      go_loopg [7, 10] n (fun g s7 s10 wr => ∃ (k : Nat) (s0 : List UInt8), s7 = .string (B s0) ∧ s10 = .int .i64 k ∧ k ≤ n ∧ n - k ≤ g ∧ s0.length = k + 1 ∧ Hid (s0 = 91 :: ls.take k ∧ Arr wr w.heap.size (memF (ls.take k)) ∧ Arr wr (w.heap.size + 1) noB ∧ Below w.heap.size w wr ∧ w.heap.size + 2 ≤ wr.heap.size))
      case atStart => exact ⟨0, [91], rfl, rfl, Nat.zero_le _, by omega, rfl, Lib.hid ⟨by simp, H0.out, H1.out, HB.out, by rw [HS.out]; omega⟩⟩
      case round =>
        obtain ⟨k, s0, rfl, rfl, hk, hg, hs0l, HI⟩ := hrel
        by_cases hlt : k < n
        · have hcell := (HI.out.2.2.2.1.cell (p := ⟨ab, off + k, none⟩) HAB.out).trans (HC.out k (by rw [← HN.out]; exact hlt))
          have hz6 : (zs.getD k 0).toNat < 256 := (zs.getD k 0).toNat_lt
          have LK := letter_is wr (zs.getD k 0).toNat hz6
          have hgk := HG.out k hlt
          obtain ⟨z, hz⟩ : ∃ z, (zs.getD k 0).toNat = z := ⟨_, rfl⟩
          rw [hz] at hcell LK hgk hz6
          obtain ⟨u, hu⟩ : ∃ u, ls.getD k 0 = u := ⟨_, rfl⟩
          rw [hu] at hgk
          rw [← hgk] at LK
          have u6 : u.toNat < 256 := u.toNat_lt
          have hap : B s0 ++ B [u] = B (s0 ++ [u]) := B_app s0 [u]
          have hs2l : (s0 ++ [u]).length = k + 1 + 1 := by simp [hs0l]
          have hss : (B s0).size = k + 1 := by rw [B_size]; exact hs0l
          obtain ⟨s2, hs2⟩ : ∃ s2, s0 ++ [u] = s2 := ⟨_, rfl⟩
          rw [hs2] at hap hs2l
          obtain ⟨un, hun⟩ : ∃ un, u.toNat = un := ⟨_, rfl⟩
          rw [hun] at LK u6
          have hu1 : (B [u]).size = 1 := rfl
          have HLK := Lib.hid LK
          have HUN := Lib.hid hun
          have htk : ls.take (k + 1) = ls.take k ++ [u] := by
            rw [List.take_add_one, ← hu]
            simp [List.getD, List.getElem?_eq_getElem (show k < ls.length by rw [HLS.out]; exact hlt)]
          have HT := Lib.hid (And.intro htk hs2)
          clear LK hz hgk hu hun htk hs2
          go_wp2_with fail
          go_at_call 15
          refine HLK.out.mono ?_
          rintro e w3 ⟨rfl, rfl⟩
          obtain ⟨bu, hbu⟩ : ∃ bu, B [u] = bu := ⟨_, rfl⟩
          rw [hbu] at hap hu1
          go_wp2_with (refine wpList_bytes1 rfl _ rfl u _ (by rw [HUN.out]) rfl ?_; intro w4 hs4 hb4 hcv4; rw [hbu] at hcv4; have A4 := HI.out.2.1.keep hb4 (by have := HI.out.2.2.2.2; omega); have c4 := A4.cell u6; have st4 := setCell_put A4 un true u6; have fz4 := A4.frozen un; have HP := Lib.hid (And.intro (putA_arr (g := upd (memF (ls.take k)) un true) A4.lt) (putA_but (w := w4) (b := w.heap.size) (g := upd (memF (ls.take k)) un true))); have HA5 := Lib.hid (HI.out.2.2.1.keep hb4 (by have := HI.out.2.2.2.2; omega)))
          go_roundg (n - (k + 1))
          case measure => omega
          case rel =>
            refine ⟨k + 1, s2, rfl, by go_num, by omega, by omega, hs2l, Lib.hid ⟨?_, ?_, HA5.out.but HP.out.2 (by omega), HI.out.2.2.2.1.trans ((hb4.mono (by have := HI.out.2.2.2.2; omega)).trans (HP.out.2.below (Nat.le_refl _))), ?_⟩⟩
            · rw [← HT.out.2, HI.out.1, HT.out.1]; rfl
            · have e : upd (memF (ls.take k)) un true = memF (ls.take (k + 1)) := by rw [upd_or, ← HUN.out, ← memF_snoc, ← HT.out.1]
              rw [← e]
              exact HP.out.1
            · rw [HP.out.2.size, hs4]; have := HI.out.2.2.2.2; omega
        · obtain rfl : k = n := by omega
          have htn : ls.take k = ls := List.take_of_length_le (by rw [HLS.out]; exact Nat.le_refl _)
          have hs0e : s0 = 91 :: ls := by rw [HI.out.1, htn]
          have N0 : Hid (Arr wr w.heap.size (memF ls)) := Lib.hid (by have := HI.out.2.1; rwa [htn] at this)
          have N1 := Lib.hid HI.out.2.2.1
          have NB := Lib.hid HI.out.2.2.2.1
          have NZ := Lib.hid HI.out.2.2.2.2
          have hss : (B s0).size = k + 1 := by rw [B_size]; exact hs0l
          have hap1 : B s0 ++ (⟨#[93]⟩ : ByteArray) = B (s0 ++ [93]) := B_app s0 [93]
          have hl1e : s0 ++ [93] = 91 :: (ls ++ [93]) := by rw [hs0e]; rfl
          obtain ⟨l1, hl1⟩ : ∃ l1, s0 ++ [93] = l1 := ⟨_, rfl⟩
          have lt1 : l1.length = k + 2 := by rw [← hl1]; simp [hs0l]
          rw [hl1] at hap1
          have R1 : parseL l1 = some (memF ls, []) := by rw [← hl1, hl1e]; exact P1.out
          have C1 := Lib.hid (fun (W : World) (hW : Vs W.heap.size W) => parse0 l1 _ R1 W (by omega) hW)
          rw [retP_some, lt1, show (((k + 2 : Nat) : Int) - (([] : List UInt8).length : Int)) = (k : Int) + 2 by simp] at C1
          have hap2 : (⟨#[91]⟩ : ByteArray) ++ B [x, 45, y] = B [91, x, 45, y] := B_app [91] [x, 45, y]
          obtain ⟨bt, hbt⟩ : ∃ bt, B [x, 45, y] = bt := ⟨_, rfl⟩
          have hbts : bt.size = 3 := by rw [← hbt]; rfl
          have hap3 : B [91, x, 45, y] ++ (⟨#[93]⟩ : ByteArray) = B [91, x, 45, y, 93] := B_app [91, x, 45, y] [93]
          obtain ⟨b4, hb4⟩ : ∃ b4, B [91, x, 45, y] = b4 := ⟨_, rfl⟩
          have hb4s : b4.size = 4 := by rw [← hb4]; rfl
          rw [hb4] at hap2 hap3
          rw [hbt] at hap2
          obtain ⟨l2, hl2⟩ : ∃ l2, [91, x, 45, y, 93] = l2 := ⟨_, rfl⟩
          rw [hl2] at hap3
          have HL2 := Lib.hid hl2
          have R2 := P2.out
          rw [hl2, HX.out, HY.out] at R2
          clear htn hs0e hl1e hl1 R1 hb4 hl2
          by_cases hxy : ya < xa
          · rw [if_pos hxy] at R2
            have lt2 : l2.length = 5 := by rw [← HL2.out]; rfl
            have C2 := Lib.hid (fun (W : World) (hW : Vs W.heap.size W) => parse0 l2 _ R2 W (by omega) hW)
            rw [retP_none] at C2
            have txy : decide ((ya : Int) < (xa : Int)) = true := decide_eq_true (by omega)
            clear R2
            go_wp2_with fail
            go_at_call 10
            refine (C1.out _ ((HV.out.below NB.out).more NB.out.size)).mono ?_
            rintro e w3 ⟨rfl, hb3⟩
            have hz3 := hb3.size
            go_wp2_with (first | (refine wpList_allocA rfl rfl ?_; intro w4 hs4 ha4 hb4) | (refine wpList_storeA rfl _ _ rfl _ _ rfl rfl _ ha4 ?_; intro w5 ha5 hb5))
            have q5 : w5.heap.size = w3.heap.size + 1 := by rw [hb5.size, hs4]
            have hz0 := NZ.out
            have M0 := Lib.hid (((N0.out.keep hb3 (by omega)).keep hb4 (by omega)).but hb5 (by omega))
            have M1 := Lib.hid (((N1.out.keep hb3 (by omega)).keep hb4 (by omega)).but hb5 (by omega))
            have MA := Lib.hid ha5
            have MB := Lib.hid (NB.out.trans ((hb3.mono (by omega)).trans ((hb4.mono (by omega)).trans (hb5.below (by omega)))))
            clear ha4 hb4 ha5 hb5 hs4 hb3
            go_at_call 15
            refine (L1.out _).mono ?_
            rintro e w6 ⟨rfl, rfl⟩
            go_wp2_with fail
            go_at_call 15
            refine (L2.out _).mono ?_
            rintro e w7 ⟨rfl, rfl⟩
            go_wp2_with (refine wpList_bytes3 rfl _ _ _ rfl x 45 y _ _ _ (by rw [HX.out]) (by rfl) (by rw [HY.out]) rfl rfl rfl ?_; intro w8 hs8 hb8 hcv8; rw [hbt, q5] at hcv8)
            go_at_call 10
            have MB8 := MB.out.trans (hb8.mono MB.out.size)
            refine (C2.out _ ((HV.out.below MB8).more MB8.size)).mono ?_
            rintro e w9 ⟨rfl, hb9⟩
            have hz9 := hb9.size
            go_wp2_with (first | (refine wpList_allocA rfl rfl ?_; intro w10 hs10 ha10 hb10) | (refine wpList_storeA rfl _ _ rfl _ _ rfl rfl _ ha10 ?_; intro w11 ha11 hb11))
            have K0 := Lib.hid ((((M0.out.keep hb8 (by omega)).keep hb9 (by omega)).keep hb10 (by omega)).but hb11 (by omega))
            have K1 := Lib.hid ((((M1.out.keep hb8 (by omega)).keep hb9 (by omega)).keep hb10 (by omega)).but hb11 (by omega))
            have KA := Lib.hid ((((MA.out.keep hb8 (by omega)).keep hb9 (by omega)).keep hb10 (by omega)).but hb11 (by omega))
            have KK := Lib.hid ha11
            have KB := Lib.hid (MB8.trans ((hb9.mono MB8.size).trans ((hb10.mono (by have := MB8.size; omega)).trans (hb11.below (by have := MB8.size; omega)))))
            have e31 : w3.heap.size ≠ w.heap.size + 1 := by omega
            have e91 : w9.heap.size ≠ w.heap.size + 1 := by omega
            clear hb8 hcv8 hb9 ha10 hb10 ha11 hb11 hs10
            go_loopg [20] 256 (fun g' s20 wx => ∃ i : Nat, s20 = .int .i64 i ∧ xa ≤ i ∧ i ≤ 256 ∧ (i ≤ ya + 1 ∨ i = xa) ∧ 256 - i ≤ g' ∧ Hid (Arr wx (w.heap.size + 1) (fun b => noB b || (decide (xa ≤ b) && decide (b < i))) ∧ But (w.heap.size + 1) w11 wx))
            case atStart =>
              refine ⟨xa, rfl, Nat.le_refl _, by omega, .inr rfl, by omega, Lib.hid ⟨?_, But.refl⟩⟩
              have e : (fun b => noB b || (decide (xa ≤ b) && decide (b < xa))) = noB := by
                funext b
                have : (decide (xa ≤ b) && decide (b < xa)) = false := by simp
                rw [this, Bool.or_false]
              rw [e]; exact K1.out
            case round =>
              obtain ⟨i, rfl, h1, h2, h3, hg2, HJ⟩ := hrel
              have H3 := Lib.hid h3
              clear h3
              by_cases hlt2 : i ≤ ya
              · have hi : i < 256 := by omega
                have hcell := HJ.out.1.cell hi
                have hst := setCell_put HJ.out.1 i true hi
                rw [lay_upd noB xa i h1] at hst
                have hfz := HJ.out.1.frozen i
                have HP := Lib.hid (And.intro (putA_arr (g := fun b => noB b || (decide (xa ≤ b) && decide (b < i + 1))) HJ.out.1.lt) (putA_but (w := wr) (b := w.heap.size + 1) (g := fun b => noB b || (decide (xa ≤ b) && decide (b < i + 1)))))
                obtain ⟨vx, hvx⟩ : ∃ vx, (fun b => noB b || (decide (xa ≤ b) && decide (b < i))) i = vx := ⟨_, rfl⟩
                rw [show (noB i || (decide (xa ≤ i) && decide (i < i))) = vx from hvx] at hcell
                obtain ⟨wx, hwx⟩ : ∃ wx, putA wr (w.heap.size + 1) (fun b => noB b || (decide (xa ≤ b) && decide (b < i + 1))) = wx := ⟨_, rfl⟩
                rw [hwx] at hst HP
                have H12 := Lib.hid (And.intro h1 h2)
                clear hwx hvx h1 h2
                go_wp2
                go_roundg (256 - (i + 1))
                case measure => omega
                case rel => exact ⟨i + 1, by go_num, by have := H12.out.1; omega, by omega, .inl (by omega), by omega, Lib.hid ⟨HP.out.1, HJ.out.2.trans HP.out.2⟩⟩
              · have hA9 : Arr wr (w.heap.size + 1) (btw xa ya) := by
                  have := HJ.out.1
                  unfold Arr at this ⊢
                  rw [this]
                  congr 2
                  refine arr_ext fun b hb => ?_
                  have h3 := H3.out
                  show (noB b || (decide (xa ≤ b) && decide (b < i))) = btw xa ya b
                  unfold noB btw
                  rw [Bool.eq_iff_iff]
                  simp only [Bool.or_eq_true, Bool.and_eq_true, decide_eq_true_eq, Bool.false_eq_true, false_or]
                  omega
                have hA8 := K0.out.but HJ.out.2 (by omega)
                have hA12 := KA.out.but HJ.out.2 e31
                have hA17 := KK.out.but HJ.out.2 e91
                have KB2 := Lib.hid (KB.out.trans (HJ.out.2.below (by omega)))
                go_wp2_with (first | (refine wpList_loadM (by rfl) _ rfl _ rfl _ hA12 ?_) | (refine wpList_loadM (by rfl) _ rfl _ rfl _ hA8 ?_) | (refine wpList_loadM (by rfl) _ rfl _ rfl _ hA17 ?_) | (refine wpList_loadM (by rfl) _ rfl _ rfl _ hA9 ?_) | (refine wpList_eqM (by rfl) _ _ _ rfl (memF ls) rfl rfl ?_) | (refine wpList_eqM (by rfl) _ _ _ rfl (btw xa ya) rfl rfl ?_) | fail)
                go_at_call 12
                refine (does_is _ ((HV.out.below KB2.out).more KB2.out.size)).mono ?_
                rintro e w12 ⟨rfl, hb12⟩
                have KB3 := Lib.hid (KB2.out.trans (hb12.mono KB2.out.size))
                clear hb12
                go_wp2
                go_ret
                exact ⟨rfl, KB3.out⟩
          · rw [if_neg hxy] at R2
            have lt2 : l2.length = 5 := by rw [← HL2.out]; rfl
            have C2 := Lib.hid (fun (W : World) (hW : Vs W.heap.size W) => parse0 l2 _ R2 W (by omega) hW)
            rw [retP_some, lt2, show (((5 : Nat) : Int) - (([] : List UInt8).length : Int)) = 5 by rfl] at C2
            have txy : decide ((ya : Int) < (xa : Int)) = false := decide_eq_false (by omega)
            clear R2
            go_wp2_with fail
            go_at_call 10
            refine (C1.out _ ((HV.out.below NB.out).more NB.out.size)).mono ?_
            rintro e w3 ⟨rfl, hb3⟩
            have hz3 := hb3.size
            go_wp2_with (first | (refine wpList_allocA rfl rfl ?_; intro w4 hs4 ha4 hb4) | (refine wpList_storeA rfl _ _ rfl _ _ rfl rfl _ ha4 ?_; intro w5 ha5 hb5))
            have q5 : w5.heap.size = w3.heap.size + 1 := by rw [hb5.size, hs4]
            have hz0 := NZ.out
            have M0 := Lib.hid (((N0.out.keep hb3 (by omega)).keep hb4 (by omega)).but hb5 (by omega))
            have M1 := Lib.hid (((N1.out.keep hb3 (by omega)).keep hb4 (by omega)).but hb5 (by omega))
            have MA := Lib.hid ha5
            have MB := Lib.hid (NB.out.trans ((hb3.mono (by omega)).trans ((hb4.mono (by omega)).trans (hb5.below (by omega)))))
            clear ha4 hb4 ha5 hb5 hs4 hb3
            go_at_call 15
            refine (L1.out _).mono ?_
            rintro e w6 ⟨rfl, rfl⟩
            go_wp2_with fail
            go_at_call 15
            refine (L2.out _).mono ?_
            rintro e w7 ⟨rfl, rfl⟩
            go_wp2_with (refine wpList_bytes3 rfl _ _ _ rfl x 45 y _ _ _ (by rw [HX.out]) (by rfl) (by rw [HY.out]) rfl rfl rfl ?_; intro w8 hs8 hb8 hcv8; rw [hbt, q5] at hcv8)
            go_at_call 10
            have MB8 := MB.out.trans (hb8.mono MB.out.size)
            refine (C2.out _ ((HV.out.below MB8).more MB8.size)).mono ?_
            rintro e w9 ⟨rfl, hb9⟩
            have hz9 := hb9.size
            go_wp2_with (first | (refine wpList_allocA rfl rfl ?_; intro w10 hs10 ha10 hb10) | (refine wpList_storeA rfl _ _ rfl _ _ rfl rfl _ ha10 ?_; intro w11 ha11 hb11))
            have K0 := Lib.hid ((((M0.out.keep hb8 (by omega)).keep hb9 (by omega)).keep hb10 (by omega)).but hb11 (by omega))
            have K1 := Lib.hid ((((M1.out.keep hb8 (by omega)).keep hb9 (by omega)).keep hb10 (by omega)).but hb11 (by omega))
            have KA := Lib.hid ((((MA.out.keep hb8 (by omega)).keep hb9 (by omega)).keep hb10 (by omega)).but hb11 (by omega))
            have KK := Lib.hid ha11
            have KB := Lib.hid (MB8.trans ((hb9.mono MB8.size).trans ((hb10.mono (by have := MB8.size; omega)).trans (hb11.below (by have := MB8.size; omega)))))
            have e31 : w3.heap.size ≠ w.heap.size + 1 := by omega
            have e91 : w9.heap.size ≠ w.heap.size + 1 := by omega
            clear hb8 hcv8 hb9 ha10 hb10 ha11 hb11 hs10
            go_loopg [20] 256 (fun g' s20 wx => ∃ i : Nat, s20 = .int .i64 i ∧ xa ≤ i ∧ i ≤ 256 ∧ (i ≤ ya + 1 ∨ i = xa) ∧ 256 - i ≤ g' ∧ Hid (Arr wx (w.heap.size + 1) (fun b => noB b || (decide (xa ≤ b) && decide (b < i))) ∧ But (w.heap.size + 1) w11 wx))
            case atStart =>
              refine ⟨xa, rfl, Nat.le_refl _, by omega, .inr rfl, by omega, Lib.hid ⟨?_, But.refl⟩⟩
              have e : (fun b => noB b || (decide (xa ≤ b) && decide (b < xa))) = noB := by
                funext b
                have : (decide (xa ≤ b) && decide (b < xa)) = false := by simp
                rw [this, Bool.or_false]
              rw [e]; exact K1.out
            case round =>
              obtain ⟨i, rfl, h1, h2, h3, hg2, HJ⟩ := hrel
              have H3 := Lib.hid h3
              clear h3
              by_cases hlt2 : i ≤ ya
              · have hi : i < 256 := by omega
                have hcell := HJ.out.1.cell hi
                have hst := setCell_put HJ.out.1 i true hi
                rw [lay_upd noB xa i h1] at hst
                have hfz := HJ.out.1.frozen i
                have HP := Lib.hid (And.intro (putA_arr (g := fun b => noB b || (decide (xa ≤ b) && decide (b < i + 1))) HJ.out.1.lt) (putA_but (w := wr) (b := w.heap.size + 1) (g := fun b => noB b || (decide (xa ≤ b) && decide (b < i + 1)))))
                obtain ⟨vx, hvx⟩ : ∃ vx, (fun b => noB b || (decide (xa ≤ b) && decide (b < i))) i = vx := ⟨_, rfl⟩
                rw [show (noB i || (decide (xa ≤ i) && decide (i < i))) = vx from hvx] at hcell
                obtain ⟨wx, hwx⟩ : ∃ wx, putA wr (w.heap.size + 1) (fun b => noB b || (decide (xa ≤ b) && decide (b < i + 1))) = wx := ⟨_, rfl⟩
                rw [hwx] at hst HP
                have H12 := Lib.hid (And.intro h1 h2)
                clear hwx hvx h1 h2
                go_wp2
                go_roundg (256 - (i + 1))
                case measure => omega
                case rel => exact ⟨i + 1, by go_num, by have := H12.out.1; omega, by omega, .inl (by omega), by omega, Lib.hid ⟨HP.out.1, HJ.out.2.trans HP.out.2⟩⟩
              · have hA9 : Arr wr (w.heap.size + 1) (btw xa ya) := by
                  have := HJ.out.1
                  unfold Arr at this ⊢
                  rw [this]
                  congr 2
                  refine arr_ext fun b hb => ?_
                  have h3 := H3.out
                  show (noB b || (decide (xa ≤ b) && decide (b < i))) = btw xa ya b
                  unfold noB btw
                  rw [Bool.eq_iff_iff]
                  simp only [Bool.or_eq_true, Bool.and_eq_true, decide_eq_true_eq, Bool.false_eq_true, false_or]
                  omega
                have hA8 := K0.out.but HJ.out.2 (by omega)
                have hA12 := KA.out.but HJ.out.2 e31
                have hA17 := KK.out.but HJ.out.2 e91
                have KB2 := Lib.hid (KB.out.trans (HJ.out.2.below (by omega)))
                go_wp2_with (first | (refine wpList_loadM (by rfl) _ rfl _ rfl _ hA12 ?_) | (refine wpList_loadM (by rfl) _ rfl _ rfl _ hA8 ?_) | (refine wpList_loadM (by rfl) _ rfl _ rfl _ hA17 ?_) | (refine wpList_loadM (by rfl) _ rfl _ rfl _ hA9 ?_) | (refine wpList_eqM (by rfl) _ _ _ rfl (memF ls) rfl rfl ?_) | (refine wpList_eqM (by rfl) _ _ _ rfl (btw xa ya) rfl rfl ?_) | fail)
                go_at_call 12
                refine (does_is _ ((HV.out.below KB2.out).more KB2.out.size)).mono ?_
                rintro e w12 ⟨rfl, hb12⟩
                have KB3 := Lib.hid (KB2.out.trans (hb12.mono KB2.out.size))
                clear hb12
                go_wp2
                go_ret
                exact ⟨rfl, KB3.out⟩
end Go.Proofs.Ytmemdmjfccepgaa.cls
