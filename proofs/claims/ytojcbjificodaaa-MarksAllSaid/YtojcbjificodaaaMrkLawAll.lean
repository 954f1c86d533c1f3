/- MarksAll, walked. -/
import Derived.Test.YtojcbjificodaaaMrkKit
import Derived.Deep.DeepCutAuto
import Derived.Deep.CutRange
namespace Go.Proofs.Ytojcbjificodaaa.mrk
open Go.RowKit Go.Lib pce sps
set_option linter.unusedVariables false
set_option linter.unusedSimpArgs false
set_option linter.unnecessarySimpa false
set_option linter.unusedSectionVars false

/-- So many lines as are laid back. -/
theorem back_many (d : Int) (hd1 : -9223372036854775808 ≤ d) (hd2 : d ≤ 9223372036854775807) : ∃ lo m : Nat, (if d < 0 then 0 else d) = (lo : Int) ∧ (if (1000 : Int) < lo then 1000 else (lo : Int)) = (m : Int) ∧ m ≤ 1000 ∧ (0 ≤ d → d ≤ 1000 → (m : Int) = d) ∧ lo ≤ 9223372036854775807 :=
  ⟨(max d 0).toNat, (min ((max d 0).toNat : Int) 1000).toNat, by split <;> omega, by split <;> omega, by omega, by omega, by omega⟩
theorem take_all {ts : List Ct} {n : Nat} (h : n = ts.length) : ts.take n = ts := by rw [h, List.take_length]
theorem ln_pack (x a d : Int) (q m : Nat) (x2 : x ≤ 9223372036854775807) : ∃ (z : Int) (ok : Bool) (y : Int), ln x a d q = z ∧ decide (0 < z) = ok ∧ ln z a q m = y ∧ 0 ≤ z ∧ z ≤ 9223372036854775807 := ⟨_, _, _, rfl, rfl, rfl, ln_lo, ln_hi x2⟩
theorem line_ok (n a d : Int) (A : Option Addr) (k c : Nat) (w : World) (z : Int) (ok : Bool) (hz : ln n a d k = z) (hok : decide (0 < z) = ok) (hn1 : -9223372036854775808 ≤ n) (hn2 : n ≤ 9223372036854775807) (ha1 : -9223372036854775808 ≤ a) (ha2 : a ≤ 9223372036854775807) (hd1 : -9223372036854775808 ≤ d) (hd2 : d ≤ 9223372036854775807) (hk : k ≤ 100000) :
    Calls Try.prog 10 #[.int .i64 n, .agg #[.int .i64 a, .int .i64 d, .slice A k c]] w fun e w' => e = .returned (.tuple #[.int .i64 z, .bool ok]) ∧ w' = w.alloc (.cells #[.int .i64 a, .int .i64 d, .slice A k c] 30) := by
  subst hok
  exact line_is n a d A k c w z hz hn1 hn2 ha1 ha2 hd1 hd2 hk
theorem Sts.re {w W : World} {f g h : Nat → Int} {bA : Nat} (e : g = h) (H : Sts w f h bA W) : Sts w f g bA W := by rw [e]; exact H
theorem all_eq (F : Nat → Prop) (f : Nat → Int) (A : Option Addr) (n c : Nat) (ts : List Ct) (w : World) (G : Nat → Int) (hf : Ints f) (hn : n = ts.length) (hb : n ≤ 100000) (hC : Cuts w F A ts) (hS : Short ts) (hG : shfs f ts = G) :
    Calls Try.prog 11 #[.agg (arr f), .slice A n c] w fun e w' => e = .returned (.agg (arr G)) ∧ Below w.heap.size w w' := by
  subst hG
  exact all_is F f A n c ts w hf hn hb hC hS
set_option maxHeartbeats 8000000 in
set_option maxRecDepth 100000 in
theorem law4 (f : Nat → Int) (hf : Ints f) (A : Option Addr) (n c : Nat) (ts : List Ct) (w : World) (hn : n = ts.length) (hb : n ≤ maxLen) (hC : Cuts w (· < w.heap.size) A ts) :
    Calls Try.prog 4 #[.agg (arr f), .slice A n c] w fun e w' => e = .returned (.bool true) ∧ Below w.heap.size w w' := by
  have C1 := Lib.hid (fun (W : World) (hW : Below w.heap.size w W) => beyond_is W _ A n c ts 20 (by omega) hn hb (hC.below hW))
  have HF := Lib.hid hf
  have HN := Lib.hid hn
  have HC := Lib.hid hC
  clear hf hn hb hC
  go_enter Try.func4, Try.ntmps4
  go_wp2_with (first
    | (refine wpList_boxA rfl _ rfl f rfl ?_; intro w1 hz1 hA1 hB1)
    | fail "NONE")
  have HB1 := Lib.hid hB1
  have HA1 := Lib.hid hA1
  clear hB1 hA1
  go_at_call 5
  refine (C1.out w1 HB1.out).mono ?_
  rintro e w2 ⟨(rfl | ⟨rfl, g1, g2⟩), hw⟩
  · subst hw
    go_wp2_with fail
    go_at_call 6
    refine (lives_is w1).mono ?_
    rintro e w3 ⟨rfl, hB3⟩
    have HB3 := Lib.hid (HB1.out.trans (hB3.mono HB1.out.size))
    clear hB3
    go_wp2
    go_ret
    exact ⟨rfl, HB3.out⟩
  subst hw
  have hn20 : n ≤ 20 := by rw [HN.out]; exact g1
  have HS : Hid (Short ts) := Lib.hid (fun t ht => Nat.le_trans (g2 t ht) (by omega))
  have HS1 : Hid (∀ t ∈ ts, t.ins.length ≤ 100) := Lib.hid g2
  clear C1 g1 g2
  go_wp2_with (first
    | (refine wpList_loadA rfl _ rfl _ rfl _ HA1.out ?_)
    | (refine wpList_allocA rfl rfl ?_; intro w3 hz3 hA3 hB3; have HB3 := Lib.hid (HB1.out.trans (hB3.mono HB1.out.size)); have HM3 := Lib.hid (HA1.out.all hB3); have HA3 := Lib.hid hA3; clear hB3 hA3)
    | (refine wpList_storeA rfl (.tmp 5) (.tmp 16) rfl _ _ rfl rfl _ HA3.out ?_; intro w4 hA4 hO4)
    | fail "NONE")
  rw [hz1] at hA4 hO4
  have HT4 : Hid (Sts w f f (w.heap.size + 1) w4) := Lib.hid (Sts.mk (HB3.out.trans (hO4.below (by omega))) (HM3.out.only hO4 (by omega)) hA4 (by omega))
  clear HB3 HM3 HA3 hz3 HB1 HA1 hA4 hO4
  go_loopg [6] n (fun g s6 wr => ∃ j : Nat, j ≤ n ∧ n - j ≤ g ∧ s6 = .int .i64 j ∧ Hid (Sts w f (shfs f (ts.take j)) (w.heap.size + 1) wr))
  case atStart => exact ⟨0, Nat.zero_le _, by omega, rfl, HT4⟩
  case round =>
    obtain ⟨j, hj, hg, rfl, HT⟩ := hrel
    clear HT4
    by_cases hlt : j < n
    · obtain ⟨t, ht⟩ : ∃ t, ts[j]? = some t := ⟨_, List.getElem?_eq_getElem (by rw [← HN.out]; exact hlt)⟩
      have HTJ := Lib.hid ht
      obtain ⟨b, off, rfl, hcc⟩ := cut_cells HC.out ht
      have CC := Lib.hid hcc
      have hok := HC.out.each t (List.mem_of_getElem? ht)
      have hq := HS1.out t (List.mem_of_getElem? ht)
      obtain ⟨a1, a2, a3, a4, _, _, _⟩ := hok
      obtain ⟨a, ha⟩ : ∃ a, t.a = a := ⟨_, rfl⟩
      obtain ⟨d, hd⟩ : ∃ d, t.d = d := ⟨_, rfl⟩
      obtain ⟨q, hqq⟩ : ∃ q, t.ins.length = q := ⟨_, rfl⟩
      obtain ⟨G, hG⟩ : ∃ G, shfs f (ts.take j) = G := ⟨_, rfl⟩
      have HNX : Hid (shfs f (ts.take (j + 1)) = shf G a d q) := Lib.hid (by rw [shfs_next ht, hG, ha, hd, hqq])
      have HGI : Hid (Ints G) := Lib.hid (by rw [← hG]; exact shfs_ints HF.out _)
      rw [ha, hd, hqq] at CC
      rw [ha] at a1 a2
      rw [hd] at a3 a4
      rw [hqq] at hq
      rw [hG] at HT
      have KS := Lib.hid (fun (W : World) => shift_is G a d t.A q t.c W HGI.out a1 a2 a3 a4 (by omega))
      obtain ⟨lo, m, hmax, hmin, hm, hmd, hlo⟩ := back_many d a3 a4
      have HMD := Lib.hid hmd
      have HD := Lib.hid (And.intro a3 a4)
      clear ht hcc ha hd hqq hG a3 a4 hmd
      have HT0 := HT.out
      have HTD := HT0.drew
      have hsz := HT0.a.lt
      go_wp2_with fail
      go_cut [7] (fun s7 wx => ∃ bB, s7 = .pointer (some ⟨bB, 0, none⟩) ∧ w.heap.size + 1 < bB ∧ Hid (Sts w f G (w.heap.size + 1) wx) ∧ Hid (Arr wx bB (shf G a d q)))
      case first =>
        refine wp_region_noPanic ?_
        refine wp_region_held_drew (S := Sts w f G (w.heap.size + 1)) (by kernel_rfl) (by (try dsimp only); assumption) (fun hHeld => ?_)
        refine held.take (i := 0) (v := .agg (arr G)) rfl (by kernel_rfl) (by kernel_rfl) (by kernel_rfl) (fun _ _ _ h => h) (yields_arr (by rfl) _ rfl (w.heap.size + 1) rfl G (fun W hW => Sts.a hW)) (by assumption) ?_
        (try simp only [Act.put, List.setIfInBounds_toArray, List.set_cons_zero, List.set_cons_succ])
        refine held.take (i := 1) (v := _) rfl (by kernel_rfl) (by kernel_rfl) (by kernel_rfl) (fun _ _ _ h => h) (Or.inl ⟨by rfl, fun _ _ => rfl⟩) (by assumption) ?_
        (try simp only [Act.put, List.setIfInBounds_toArray, List.set_cons_zero, List.set_cons_succ])
        refine held.take (i := 2) (v := _) rfl (by kernel_rfl) (by kernel_rfl) (by kernel_rfl) (fun _ _ _ h => h) (Or.inl ⟨by rfl, fun _ _ => rfl⟩) (by assumption) ?_
        (try simp only [Act.put, List.setIfInBounds_toArray, List.set_cons_zero, List.set_cons_succ])
        refine held.take (i := 3) (v := .pointer (some ⟨b, off + j * 3, none⟩)) rfl (by kernel_rfl) (by kernel_rfl) (by kernel_rfl) (fun _ _ _ h => h) (Or.inl ⟨by rfl, fun W hW => by (try dsimp only at hW); go_simp⟩) (by assumption) ?_
        (try simp only [Act.put, List.setIfInBounds_toArray, List.set_cons_zero, List.set_cons_succ])
        refine held.take (i := 4) (v := .agg #[.int .i64 a, .int .i64 d, .slice t.A q t.c]) rfl (by kernel_rfl) (by kernel_rfl) (by kernel_rfl) (fun _ _ _ h => h) (Or.inl ⟨by rfl, fun W hW => by (try dsimp only at hW); obtain ⟨q0, q1, q2⟩ := CC.out W hW.below; go_simp⟩) (by assumption) ?_
        (try simp only [Act.put, List.setIfInBounds_toArray, List.set_cons_zero, List.set_cons_succ])
        refine held_two (i := 5) (j := 6) (by kernel_rfl) rfl rfl (fun K hK => ?_) (fun K hK => ?_)
        · skip
          go_simp
          go_at_call 8
          refine (KS.out _).mono ?_
          rintro e v1 ⟨rfl, hB⟩
          have T1 := Sts.next (by assumption) hB
          have z1 := hB.size
          refine hK.out _ _ (by (try dsimp only); assumption) (fun hHeld => ?_)
          clear hK K
          (try simp only [Act.put, List.setIfInBounds_toArray, List.set_cons_zero, List.set_cons_succ])
          refine held.only (i := 6) (by kernel_rfl) rfl (fun K hK => ?_)
          rw [if_pos (by rfl)]
          refine wp_allocA rfl ?_
          intro v2 hz2 hA2 hB2
          have T2 := Sts.next (by assumption) hB2
          have z2 := T1.a.lt
          clear T1
          refine hK.out _ _ (by (try dsimp only); assumption) (fun hHeld => ?_)
          clear hK K
          (try simp only [Act.put, List.setIfInBounds_toArray, List.set_cons_zero, List.set_cons_succ])
          refine held.only (i := 7) (by kernel_rfl) rfl (fun K hK => ?_)
          rw [if_pos (by rfl)]
          refine wp_storeA (.tmp 7) (.tmp 28) rfl _ _ rfl rfl _ hA2 ?_
          intro v3 hA3 hO3
          have T3 := Sts.only (by assumption) hO3 (by omega)
          clear T2
          refine hK.out _ _ (by (try dsimp only); assumption) (fun hHeld => ?_)
          clear hK K
          (try simp only [Act.put, List.setIfInBounds_toArray, List.set_cons_zero, List.set_cons_succ])
          refine wpAnyH_done (by kernel_rfl) ?_ _
          refine NoPanic.normal ?_
          clear hHeld
          go_wp2_with fail
          go_meet
          exact ⟨_, rfl, by omega, T3, hA3⟩
        · skip
          rw [if_pos (by rfl)]
          refine wp_allocA rfl ?_
          intro v1 hz1 hA1 hB1
          have T1 := Sts.next HTD hB1
          refine hK.out _ _ (by (try dsimp only); assumption) (fun hHeld => ?_)
          clear hK K
          (try simp only [Act.put, List.setIfInBounds_toArray, List.set_cons_zero, List.set_cons_succ])
          refine held.only (i := 5) (by kernel_rfl) rfl (fun K hK => ?_)
          go_simp
          go_at_call 8
          refine (KS.out _).mono ?_
          rintro e v2 ⟨rfl, hB⟩
          have T2 := Sts.next T1 hB
          have A2 := hA1.all hB
          clear T1
          refine hK.out _ _ (by (try dsimp only); assumption) (fun hHeld => ?_)
          clear hK K
          (try simp only [Act.put, List.setIfInBounds_toArray, List.set_cons_zero, List.set_cons_succ])
          refine held.only (i := 7) (by kernel_rfl) rfl (fun K hK => ?_)
          rw [if_pos (by rfl)]
          refine wp_storeA (.tmp 7) (.tmp 28) rfl _ _ rfl rfl _ A2 ?_
          intro v3 hA3 hO3
          have T3 := Sts.only T2 hO3 (by simpa using hsz)
          clear T2
          refine hK.out _ _ (by (try dsimp only); assumption) (fun hHeld => ?_)
          clear hK K
          (try simp only [Act.put, List.setIfInBounds_toArray, List.set_cons_zero, List.set_cons_succ])
          refine wpAnyH_done (by kernel_rfl) ?_ _
          refine NoPanic.normal ?_
          clear hHeld
          go_wp2_with fail
          go_meet
          exact ⟨_, rfl, by simpa using hsz, T3, hA3⟩
      case rest =>
        obtain ⟨bB, rfl, hbB, HT1, HX1⟩ := hcut
        clear HT0 HTD hsz KS
        go_wp2_with fail
        go_loopg [8] 26 (fun g s8 wy => ∃ k : Nat, k ≤ 26 ∧ 26 - k ≤ g ∧ s8 = .int .i64 k ∧ Hid (Sts w f G (w.heap.size + 1) wy) ∧ Hid (Arr wy bB (shf G a d q)))
        case atStart => exact ⟨0, Nat.zero_le _, by omega, rfl, HT1, HX1⟩
        case round =>
          obtain ⟨k, hk, hgk, rfl, HT2, HX2⟩ := hrel
          clear HT1 HX1
          by_cases hk26 : k < 26
          · obtain ⟨x, hx⟩ : ∃ x, G k = x := ⟨_, rfl⟩
            obtain ⟨x1, x2⟩ := HGI.out k hk26
            rw [hx] at x1 x2
            obtain ⟨z, ok, y, hz, hok, hy, z1, z2⟩ := ln_pack x a d q m x2
            have HX := Lib.hid hx
            have HZ := Lib.hid hz
            have HOK := Lib.hid hok
            have KL1 := Lib.hid (fun (W : World) => line_ok x a d t.A q t.c W z ok hz hok x1 x2 a1 a2 HD.out.1 HD.out.2 (by omega))
            have KX := Lib.hid (fun (W : World) (hW : Duo w f G (w.heap.size + 1) bB (shf G a d q) W) => show W.cell? ⟨w.heap.size + 1, k, none⟩ = some (.int .i64 x) by rw [hW.s.a.cell hk26, hx])
            have KZ := Lib.hid (fun (W : World) (hW : Duo w f G (w.heap.size + 1) bB (shf G a d q) W) => show W.cell? ⟨bB, k, none⟩ = some (.int .i64 z) by rw [hW.x.cell hk26]; show some (Value.int .i64 (ln (G k) a d q)) = _; rw [hx, hz])
            have HYY := Lib.hid hy
            have KB := Lib.hid (fun (B : Option Addr) (W : World) => line_is z a q B m m W y hy (by omega) z2 a1 a2 (by omega) (by omega) (by omega))
            have SB0 : Duo w f G (w.heap.size + 1) bB (shf G a d q) wr := ⟨HT2.out, HX2.out⟩
            have SB1 := SB0.drew
            clear hx hz hok hy x1 z2
            go_wp2_with fail
            refine wp_region_noPanic ?_
            refine wp_region_held_drew (S := Duo w f G (w.heap.size + 1) bB (shf G a d q)) (by kernel_rfl) (by (try dsimp only); assumption) (fun hHeld => ?_)
            refine held.take (i := 0) (v := _) rfl (by kernel_rfl) (by kernel_rfl) (by kernel_rfl) (fun _ _ _ h => h) (Or.inl ⟨by rfl, fun _ _ => rfl⟩) (by assumption) ?_
            (try simp only [Act.put, List.setIfInBounds_toArray, List.set_cons_zero, List.set_cons_succ])
            refine held.take (i := 1) (v := .pointer (some ⟨w.heap.size + 1, k, none⟩)) rfl (by kernel_rfl) (by kernel_rfl) (by kernel_rfl) (fun _ _ _ h => h) (Or.inl ⟨by rfl, fun W hW => by (try dsimp only at hW); go_simp⟩) (by assumption) ?_
            (try simp only [Act.put, List.setIfInBounds_toArray, List.set_cons_zero, List.set_cons_succ])
            refine held.take (i := 2) (v := .int .i64 x) rfl (by kernel_rfl) (by kernel_rfl) (by kernel_rfl) (fun _ _ _ h => h) (Or.inl ⟨by rfl, fun W hW => by (try dsimp only at hW); have q0 := KX.out W hW; go_simp⟩) (by assumption) ?_
            (try simp only [Act.put, List.setIfInBounds_toArray, List.set_cons_zero, List.set_cons_succ])
            refine held.take (i := 3) (v := _) rfl (by kernel_rfl) (by kernel_rfl) (by kernel_rfl) (fun _ _ _ h => h) (Or.inl ⟨by rfl, fun _ _ => rfl⟩) (by assumption) ?_
            (try simp only [Act.put, List.setIfInBounds_toArray, List.set_cons_zero, List.set_cons_succ])
            refine held.take (i := 4) (v := _) rfl (by kernel_rfl) (by kernel_rfl) (by kernel_rfl) (fun _ _ _ h => h) (Or.inl ⟨by rfl, fun _ _ => rfl⟩) (by assumption) ?_
            (try simp only [Act.put, List.setIfInBounds_toArray, List.set_cons_zero, List.set_cons_succ])
            refine held.take (i := 5) (v := .pointer (some ⟨b, off + j * 3, none⟩)) rfl (by kernel_rfl) (by kernel_rfl) (by kernel_rfl) (fun _ _ _ h => h) (Or.inl ⟨by rfl, fun W hW => by (try dsimp only at hW); go_simp⟩) (by assumption) ?_
            (try simp only [Act.put, List.setIfInBounds_toArray, List.set_cons_zero, List.set_cons_succ])
            refine held.take (i := 6) (v := .agg #[.int .i64 a, .int .i64 d, .slice t.A q t.c]) rfl (by kernel_rfl) (by kernel_rfl) (by kernel_rfl) (fun _ _ _ h => h) (Or.inl ⟨by rfl, fun W hW => by (try dsimp only at hW); obtain ⟨q0, q1, q2⟩ := CC.out W hW.s.below; go_simp⟩) (by assumption) ?_
            (try simp only [Act.put, List.setIfInBounds_toArray, List.set_cons_zero, List.set_cons_succ])
            refine held.only (i := 7) (by kernel_rfl) rfl (fun K hK => ?_)
            go_simp
            go_at_call 10
            refine (KL1.out _).mono ?_
            rintro e v1 ⟨rfl, hv⟩
            have T1 := Duo.alloc (by assumption) hv
            refine hK.out _ _ (by (try dsimp only); assumption) (fun hHeld => ?_)
            clear hK K
            (try simp only [Act.put, List.setIfInBounds_toArray, List.set_cons_zero, List.set_cons_succ])
            refine held.take (i := 8) (v := .tuple #[.int .i64 z, .bool ok]) rfl (by kernel_rfl) (by kernel_rfl) (by kernel_rfl) (fun _ _ _ h => h) (Or.inl ⟨by rfl, fun W hW => by (try dsimp only at hW); go_simp⟩) (by assumption) ?_
            (try simp only [Act.put, List.setIfInBounds_toArray, List.set_cons_zero, List.set_cons_succ])
            refine held.take (i := 9) (v := .int .i64 z) rfl (by kernel_rfl) (by kernel_rfl) (by kernel_rfl) (fun _ _ _ h => h) (Or.inl ⟨by rfl, fun W hW => by (try dsimp only at hW); go_simp⟩) (by assumption) ?_
            (try simp only [Act.put, List.setIfInBounds_toArray, List.set_cons_zero, List.set_cons_succ])
            refine held.take (i := 10) (v := .bool ok) rfl (by kernel_rfl) (by kernel_rfl) (by kernel_rfl) (fun _ _ _ h => h) (Or.inl ⟨by rfl, fun W hW => by (try dsimp only at hW); go_simp⟩) (by assumption) ?_
            (try simp only [Act.put, List.setIfInBounds_toArray, List.set_cons_zero, List.set_cons_succ])
            refine held.take (i := 11) (v := .int .i64 z) rfl (by kernel_rfl) (by kernel_rfl) (by kernel_rfl) (fun _ _ _ h => h) (Or.inl ⟨by rfl, fun W hW => by (try dsimp only at hW); go_simp⟩) (by assumption) ?_
            (try simp only [Act.put, List.setIfInBounds_toArray, List.set_cons_zero, List.set_cons_succ])
            refine held.take (i := 12) (v := .bool ok) rfl (by kernel_rfl) (by kernel_rfl) (by kernel_rfl) (fun _ _ _ h => h) (Or.inl ⟨by rfl, fun W hW => by (try dsimp only at hW); go_simp⟩) (by assumption) ?_
            (try simp only [Act.put, List.setIfInBounds_toArray, List.set_cons_zero, List.set_cons_succ])
            refine wpAnyH_done (by kernel_rfl) ?_ _
            refine NoPanic.normal ?_
            have q9 := KZ.out _ T1
            have hzz : (z == z) = true := by simp
            have hzn : (z != z) = false := by simp
            clear SB0 SB1 KL1 hHeld hv HT2 HX2
            have SD := T1.drew
            go_upto_region 12 with fail
            go_cut [56] (fun s56 wx => s56 = .bool false ∧ wx = v1)
            case first =>
              cases ok with
              | false =>
                have h00 : z = 0 := by have := HOK.out; simp at this; omega
                have h01 : (z != 0) = false := by rw [h00]; rfl
                clear h00
                go_wp2_with fail
                go_meet
                exact ⟨rfl, rfl⟩
              | true =>
                go_wp2_with fail
                go_meet
                exact ⟨rfl, rfl⟩
            case rest =>
              obtain ⟨rfl, hwc⟩ := hcut
              have hwc := hwc.symm
              subst hwc
              go_wp2_with fail
              clear q9 hzz hzn
              refine wp_region_noPanic ?_
              refine wp_region_held_drew (S := Duo w f G (w.heap.size + 1) bB (shf G a d q)) (by kernel_rfl) (by (try dsimp only); assumption) (fun hHeld => ?_)
              refine held.take (i := 0) (v := _) rfl (by kernel_rfl) (by kernel_rfl) (by kernel_rfl) (fun _ _ _ h => h) (Or.inl ⟨by rfl, fun _ _ => rfl⟩) (by assumption) ?_
              (try simp only [Act.put, List.setIfInBounds_toArray, List.set_cons_zero, List.set_cons_succ])
              refine held.take (i := 1) (v := _) rfl (by kernel_rfl) (by kernel_rfl) (by kernel_rfl) (fun _ _ _ h => h) (Or.inl ⟨by rfl, fun _ _ => rfl⟩) (by assumption) ?_
              (try simp only [Act.put, List.setIfInBounds_toArray, List.set_cons_zero, List.set_cons_succ])
              refine held.take (i := 2) (v := _) rfl (by kernel_rfl) (by kernel_rfl) (by kernel_rfl) (fun _ _ _ h => h) (Or.inl ⟨by rfl, fun _ _ => rfl⟩) (by assumption) ?_
              (try simp only [Act.put, List.setIfInBounds_toArray, List.set_cons_zero, List.set_cons_succ])
              refine held.take (i := 3) (v := .pointer (some ⟨b, off + j * 3, none⟩)) rfl (by kernel_rfl) (by kernel_rfl) (by kernel_rfl) (fun _ _ _ h => h) (Or.inl ⟨by rfl, fun W hW => by (try dsimp only at hW); go_simp⟩) (by assumption) ?_
              (try simp only [Act.put, List.setIfInBounds_toArray, List.set_cons_zero, List.set_cons_succ])
              refine held.take (i := 4) (v := .pointer (some ⟨b, off + j * 3, none⟩)) rfl (by kernel_rfl) (by kernel_rfl) (by kernel_rfl) (fun _ _ _ h => h) (Or.inl ⟨by rfl, fun W hW => by (try dsimp only at hW); go_simp⟩) (by assumption) ?_
              (try simp only [Act.put, List.setIfInBounds_toArray, List.set_cons_zero, List.set_cons_succ])
              refine held.take (i := 5) (v := .int .i64 a) rfl (by kernel_rfl) (by kernel_rfl) (by kernel_rfl) (fun _ _ _ h => h) (Or.inl ⟨by rfl, fun W hW => by (try dsimp only at hW); obtain ⟨q0, q1, q2⟩ := CC.out W hW.s.below; go_simp⟩) (by assumption) ?_
              (try simp only [Act.put, List.setIfInBounds_toArray, List.set_cons_zero, List.set_cons_succ])
              refine held.take (i := 6) (v := _) rfl (by kernel_rfl) (by kernel_rfl) (by kernel_rfl) (fun _ _ _ h => h) (Or.inl ⟨by rfl, fun _ _ => rfl⟩) (by assumption) ?_
              (try simp only [Act.put, List.setIfInBounds_toArray, List.set_cons_zero, List.set_cons_succ])
              refine held.take (i := 7) (v := _) rfl (by kernel_rfl) (by kernel_rfl) (by kernel_rfl) (fun _ _ _ h => h) (Or.inl ⟨by rfl, fun _ _ => rfl⟩) (by assumption) ?_
              (try simp only [Act.put, List.setIfInBounds_toArray, List.set_cons_zero, List.set_cons_succ])
              refine held.take (i := 8) (v := .pointer (some ⟨b, off + j * 3, none⟩)) rfl (by kernel_rfl) (by kernel_rfl) (by kernel_rfl) (fun _ _ _ h => h) (Or.inl ⟨by rfl, fun W hW => by (try dsimp only at hW); go_simp⟩) (by assumption) ?_
              (try simp only [Act.put, List.setIfInBounds_toArray, List.set_cons_zero, List.set_cons_succ])
              refine held.take (i := 9) (v := .pointer (some ⟨b, off + j * 3 + 2, none⟩)) rfl (by kernel_rfl) (by kernel_rfl) (by kernel_rfl) (fun _ _ _ h => h) (Or.inl ⟨by rfl, fun W hW => by (try dsimp only at hW); go_simp⟩) (by assumption) ?_
              (try simp only [Act.put, List.setIfInBounds_toArray, List.set_cons_zero, List.set_cons_succ])
              refine held.take (i := 10) (v := .slice t.A q t.c) rfl (by kernel_rfl) (by kernel_rfl) (by kernel_rfl) (fun _ _ _ h => h) (Or.inl ⟨by rfl, fun W hW => by (try dsimp only at hW); obtain ⟨q0, q1, q2⟩ := CC.out W hW.s.below; go_simp⟩) (by assumption) ?_
              (try simp only [Act.put, List.setIfInBounds_toArray, List.set_cons_zero, List.set_cons_succ])
              refine held.take (i := 11) (v := .int .i64 q) rfl (by kernel_rfl) (by kernel_rfl) (by kernel_rfl) (fun _ _ _ h => h) (Or.inl ⟨by rfl, fun W hW => by (try dsimp only at hW); go_simp⟩) (by assumption) ?_
              (try simp only [Act.put, List.setIfInBounds_toArray, List.set_cons_zero, List.set_cons_succ])
              refine held.take (i := 12) (v := _) rfl (by kernel_rfl) (by kernel_rfl) (by kernel_rfl) (fun _ _ _ h => h) (Or.inl ⟨by rfl, fun _ _ => rfl⟩) (by assumption) ?_
              (try simp only [Act.put, List.setIfInBounds_toArray, List.set_cons_zero, List.set_cons_succ])
              refine held.take (i := 13) (v := _) rfl (by kernel_rfl) (by kernel_rfl) (by kernel_rfl) (fun _ _ _ h => h) (Or.inl ⟨by rfl, fun _ _ => rfl⟩) (by assumption) ?_
              (try simp only [Act.put, List.setIfInBounds_toArray, List.set_cons_zero, List.set_cons_succ])
              refine held.take (i := 14) (v := .pointer (some ⟨b, off + j * 3, none⟩)) rfl (by kernel_rfl) (by kernel_rfl) (by kernel_rfl) (fun _ _ _ h => h) (Or.inl ⟨by rfl, fun W hW => by (try dsimp only at hW); go_simp⟩) (by assumption) ?_
              (try simp only [Act.put, List.setIfInBounds_toArray, List.set_cons_zero, List.set_cons_succ])
              refine held.take (i := 15) (v := .pointer (some ⟨b, off + j * 3 + 1, none⟩)) rfl (by kernel_rfl) (by kernel_rfl) (by kernel_rfl) (fun _ _ _ h => h) (Or.inl ⟨by rfl, fun W hW => by (try dsimp only at hW); go_simp⟩) (by assumption) ?_
              (try simp only [Act.put, List.setIfInBounds_toArray, List.set_cons_zero, List.set_cons_succ])
              refine held.take (i := 16) (v := .int .i64 d) rfl (by kernel_rfl) (by kernel_rfl) (by kernel_rfl) (fun _ _ _ h => h) (Or.inl ⟨by rfl, fun W hW => by (try dsimp only at hW); obtain ⟨q0, q1, q2⟩ := CC.out W hW.s.below; go_simp⟩) (by assumption) ?_
              (try simp only [Act.put, List.setIfInBounds_toArray, List.set_cons_zero, List.set_cons_succ])
              refine held.take (i := 17) (v := .int .i64 lo) rfl (by kernel_rfl) (by kernel_rfl) (by kernel_rfl) (fun _ _ _ h => h) (Or.inl ⟨by rfl, fun W hW => by (try dsimp only at hW); go_simp⟩) (by assumption) ?_
              (try simp only [Act.put, List.setIfInBounds_toArray, List.set_cons_zero, List.set_cons_succ])
              refine held.take (i := 18) (v := .int .i64 m) rfl (by kernel_rfl) (by kernel_rfl) (by kernel_rfl) (fun _ _ _ h => h) (Or.inl ⟨by rfl, fun W hW => by (try dsimp only at hW); go_simp⟩) (by assumption) ?_
              (try simp only [Act.put, List.setIfInBounds_toArray, List.set_cons_zero, List.set_cons_succ])
              refine held.only (i := 19) (by kernel_rfl) rfl (fun K hK => ?_)
              rw [if_pos (by rfl)]
              refine wp_make (.tmp 76) (.tmp 76) rfl m rfl rfl (by omega) ?_
              intro B2 v3 hBB hB3
              clear hBB
              have T3 := Duo.next (by assumption) hB3
              refine hK.out _ _ (by (try dsimp only); assumption) (fun hHeld => ?_)
              clear hK K
              (try simp only [Act.put, List.setIfInBounds_toArray, List.set_cons_zero, List.set_cons_succ])
              refine held.take (i := 20) (v := .agg #[.int .i64 a, .int .i64 q, .slice B2 m m]) rfl (by kernel_rfl) (by kernel_rfl) (by kernel_rfl) (fun _ _ _ h => h) (Or.inl ⟨by rfl, fun W hW => by (try dsimp only at hW); go_simp⟩) (by assumption) ?_
              (try simp only [Act.put, List.setIfInBounds_toArray, List.set_cons_zero, List.set_cons_succ])
              refine held.only (i := 21) (by kernel_rfl) rfl (fun K hK => ?_)
              go_simp
              go_at_call 10
              refine (KB.out B2 _).mono ?_
              rintro e v4 ⟨rfl, hv4⟩
              have T4 := Duo.alloc (by assumption) hv4
              refine hK.out _ _ (by (try dsimp only); assumption) (fun hHeld => ?_)
              clear hK K
              (try simp only [Act.put, List.setIfInBounds_toArray, List.set_cons_zero, List.set_cons_succ])
              refine held.take (i := 22) (v := .tuple #[.int .i64 y, .bool (decide (0 < y))]) rfl (by kernel_rfl) (by kernel_rfl) (by kernel_rfl) (fun _ _ _ h => h) (Or.inl ⟨by rfl, fun W hW => by (try dsimp only at hW); go_simp⟩) (by assumption) ?_
              (try simp only [Act.put, List.setIfInBounds_toArray, List.set_cons_zero, List.set_cons_succ])
              refine held.take (i := 23) (v := .int .i64 y) rfl (by kernel_rfl) (by kernel_rfl) (by kernel_rfl) (fun _ _ _ h => h) (Or.inl ⟨by rfl, fun W hW => by (try dsimp only at hW); go_simp⟩) (by assumption) ?_
              (try simp only [Act.put, List.setIfInBounds_toArray, List.set_cons_zero, List.set_cons_succ])
              refine held.take (i := 24) (v := .bool (decide (0 < y))) rfl (by kernel_rfl) (by kernel_rfl) (by kernel_rfl) (fun _ _ _ h => h) (Or.inl ⟨by rfl, fun W hW => by (try dsimp only at hW); go_simp⟩) (by assumption) ?_
              (try simp only [Act.put, List.setIfInBounds_toArray, List.set_cons_zero, List.set_cons_succ])
              refine held.take (i := 25) (v := .int .i64 y) rfl (by kernel_rfl) (by kernel_rfl) (by kernel_rfl) (fun _ _ _ h => h) (Or.inl ⟨by rfl, fun W hW => by (try dsimp only at hW); go_simp⟩) (by assumption) ?_
              (try simp only [Act.put, List.setIfInBounds_toArray, List.set_cons_zero, List.set_cons_succ])
              refine held.take (i := 26) (v := .bool (decide (0 < y))) rfl (by kernel_rfl) (by kernel_rfl) (by kernel_rfl) (fun _ _ _ h => h) (Or.inl ⟨by rfl, fun W hW => by (try dsimp only at hW); go_simp⟩) (by assumption) ?_
              (try simp only [Act.put, List.setIfInBounds_toArray, List.set_cons_zero, List.set_cons_succ])
              refine wpAnyH_done (by kernel_rfl) ?_ _
              refine NoPanic.normal ?_
              obtain ⟨q0, q1, q2⟩ := CC.out _ T4.s.below
              have q3 := KX.out _ T4
              have P4 := Lib.hid T4
              clear hHeld T1 SD T3 T4 hB3 hv4
              go_upto_region 15 with fail
              go_cut [115] (fun s115 wx => s115 = .bool false ∧ wx = v4)
              case first =>
                cases ok with
                | false =>
                  go_wp2_with fail
                  go_meet
                  exact ⟨rfl, rfl⟩
                | true =>
                  have z0 : 0 < z := by have := HOK.out; simpa using this
                  have hz0 : ¬ (x < 1 ∨ a < 0 ∨ d < 0) := fun h => by have h1 := HZ.out; rw [ln_none h] at h1; omega
                  have d0 : 0 ≤ d := by omega
                  have x0 : 1 ≤ x := by omega
                  by_cases hd3 : d ≤ 1000
                  · obtain rfl : y = x := by rw [← HYY.out, ← HZ.out]; exact ln_back x2 (by rw [HZ.out]; exact z0) m (HMD.out d0 hd3)
                    have e1 : decide (0 < y) = true := decide_eq_true (by omega)
                    have e2 : (y != y) = false := by simp
                    have e3 : (y == y) = true := by simp
                    clear hz0
                    go_wp2_with fail
                    go_meet
                    exact ⟨rfl, rfl⟩
                  · clear hz0
                    go_wp2_with fail
                    go_meet
                    exact ⟨rfl, rfl⟩
              case rest =>
                obtain ⟨rfl, hwc⟩ := hcut
                have hwc := hwc.symm
                subst hwc
                go_wp2_with fail
                go_roundg (26 - (k + 1))
                case measure => omega
                case rel => exact ⟨k + 1, by omega, by omega, by go_num, P4.out.s, P4.out.x⟩
          · obtain rfl : k = 26 := by omega
            go_wp2_with (first
              | (refine wpList_loadA rfl _ rfl _ rfl _ HX2.out ?_)
              | (refine wpList_storeA rfl (.tmp 5) (.tmp 116) rfl _ _ rfl rfl _ HT2.out.a ?_; intro w5 hA5 hO5; have P5 := Lib.hid (HT2.out.turn hO5 hA5); clear hA5 hO5)
              | fail "NONE")
            go_roundg (n - (j + 1))
            case measure => omega
            case rel => exact ⟨j + 1, by omega, by omega, by go_num, Sts.re HNX.out P5.out⟩
    · obtain rfl : j = n := by omega
      obtain ⟨G, hG⟩ : ∃ G, shfs f (ts.take j) = G := ⟨_, rfl⟩
      have HG : Hid (shfs f ts = G) := Lib.hid (by rw [← hG, take_all HN.out])
      rw [hG] at HT
      clear hG
      have KA := Lib.hid (fun (W : World) (hW : Below w.heap.size w W) => all_eq (· < w.heap.size) f A j c ts W G HF.out HN.out (by omega) (HC.out.below hW) HS.out HG.out)
      have HT0 := HT.out
      have HTD := HT0.drew
      go_wp2_with fail
      refine wp_region_noPanic ?_
      refine wp_region_held_drew (S := Sts w f G (w.heap.size + 1)) (by kernel_rfl) (by (try dsimp only); assumption) (fun hHeld => ?_)
      refine held.take (i := 0) (v := .agg (arr f)) rfl (by kernel_rfl) (by kernel_rfl) (by kernel_rfl) (fun _ _ _ h => h) (yields_arr (by rfl) _ rfl w.heap.size rfl f (fun W hW => Sts.m hW)) (by assumption) ?_
      (try simp only [Act.put, List.setIfInBounds_toArray, List.set_cons_zero, List.set_cons_succ])
      refine held.take (i := 1) (v := _) rfl (by kernel_rfl) (by kernel_rfl) (by kernel_rfl) (fun _ _ _ h => h) (Or.inl ⟨by rfl, fun _ _ => rfl⟩) (by assumption) ?_
      (try simp only [Act.put, List.setIfInBounds_toArray, List.set_cons_zero, List.set_cons_succ])
      refine held.take (i := 3) (v := .agg (arr G)) rfl (by kernel_rfl) (by kernel_rfl) (by kernel_rfl) (fun _ _ _ h => h) (yields_arr (by rfl) _ rfl (w.heap.size + 1) rfl G (fun W hW => Sts.a hW)) (by assumption) ?_
      (try simp only [Act.put, List.setIfInBounds_toArray, List.set_cons_zero, List.set_cons_succ])
      refine held.only (i := 2) (by kernel_rfl) rfl (fun K hK => ?_)
      go_simp
      go_at_call 11
      refine (KA.out _ (Sts.below (by assumption))).mono ?_
      rintro e v1 ⟨rfl, hB1⟩
      have T1 := Sts.next (by assumption) hB1
      refine hK.out _ _ (by (try dsimp only); assumption) (fun hHeld => ?_)
      clear hK K
      (try simp only [Act.put, List.setIfInBounds_toArray, List.set_cons_zero, List.set_cons_succ])
      refine held.take (i := 4) (v := .bool true) rfl (by kernel_rfl) (by kernel_rfl) (by kernel_rfl) (fun _ _ _ h => h) (yields_eq (by rfl) _ _ _ rfl G rfl rfl) (by assumption) ?_
      (try simp only [Act.put, List.setIfInBounds_toArray, List.set_cons_zero, List.set_cons_succ])
      refine held.take (i := 5) (v := _) rfl (by kernel_rfl) (by kernel_rfl) (by kernel_rfl) (fun _ _ _ h => h) (Or.inl ⟨by rfl, fun _ _ => rfl⟩) (by assumption) ?_
      (try simp only [Act.put, List.setIfInBounds_toArray, List.set_cons_zero, List.set_cons_succ])
      refine held.only (i := 6) (by kernel_rfl) rfl (fun K hK => ?_)
      go_simp
      go_at_call 6
      refine (lives_is _).mono ?_
      rintro e v2 ⟨rfl, hB2⟩
      have T2 := Sts.next T1 hB2
      refine hK.out _ _ (by (try dsimp only); assumption) (fun hHeld => ?_)
      clear hK K
      (try simp only [Act.put, List.setIfInBounds_toArray, List.set_cons_zero, List.set_cons_succ])
      refine held.take (i := 7) (v := .bool true) rfl (by kernel_rfl) (by kernel_rfl) (by kernel_rfl) (fun _ _ _ h => h) (Or.inl ⟨by rfl, fun W hW => by (try dsimp only at hW); go_simp⟩) (by assumption) ?_
      (try simp only [Act.put, List.setIfInBounds_toArray, List.set_cons_zero, List.set_cons_succ])
      refine held.take (i := 8) (v := .bool true) rfl (by kernel_rfl) (by kernel_rfl) (by kernel_rfl) (fun _ _ _ h => h) (Or.inl ⟨by rfl, fun W hW => by (try dsimp only at hW); go_simp⟩) (by assumption) ?_
      (try simp only [Act.put, List.setIfInBounds_toArray, List.set_cons_zero, List.set_cons_succ])
      refine wpAnyH_done (by kernel_rfl) ?_ _
      refine NoPanic.normal ?_
      have P5 := Lib.hid T2.below
      clear hHeld T1 T2 hB1 hB2 HT0 HTD
      go_wp2_with fail
      go_ret
      exact ⟨rfl, P5.out⟩
end Go.Proofs.Ytojcbjificodaaa.mrk
