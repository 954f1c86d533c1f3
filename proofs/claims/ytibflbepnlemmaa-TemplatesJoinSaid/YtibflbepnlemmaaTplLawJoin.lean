/- TemplatesJoin, walked. -/
import Derived.Test.YtibflbepnlemmaaTplLawTell
namespace Go.Proofs.Ytibflbepnlemmaa.tpl
open Go.RowKit Go.Lib
set_option linter.unusedVariables false
set_option linter.unusedSimpArgs false
set_option linter.unnecessarySimpa false
set_option linter.unusedSectionVars false

set_option maxHeartbeats 4000000 in
set_option maxRecDepth 100000 in
theorem law5 (a b s : List UInt8) (w : World) (ha : a.length ≤ maxLen) (hb : b.length ≤ maxLen) (hs : s.length ≤ maxLen) :
    Calls Try.prog 5 #[.string (B a), .string (B b), .string (B s)] w fun e w' => e = .returned (.bool true) ∧ Below w.heap.size w w' := by
  unfold maxLen at ha hb hs
  obtain ⟨na, hna⟩ : ∃ n, a.length = n := ⟨_, rfl⟩
  obtain ⟨nb, hnb⟩ : ∃ n, b.length = n := ⟨_, rfl⟩
  obtain ⟨n, hn⟩ : ∃ n, s.length = n := ⟨_, rfl⟩
  have hza : (B a).size = na := by rw [B_size]; exact hna
  have hzb : (B b).size = nb := by rw [B_size]; exact hnb
  have hzs : (B s).size = n := by rw [B_size]; exact hn
  have HA := Lib.hid hna
  have HB := Lib.hid hnb
  have HN := Lib.hid hn
  rw [hna] at ha
  rw [hnb] at hb
  rw [hn] at hs
  clear hna hnb hn
  by_cases h1 : 1000 < na
  · go_enter Try.func5, Try.ntmps5
    go_wp2
    go_ret
    exact ⟨rfl, Below.refl _ _⟩
  by_cases h2 : 1000 < nb
  · go_enter Try.func5, Try.ntmps5
    go_wp2
    go_ret
    exact ⟨rfl, Below.refl _ _⟩
  by_cases h3 : 1000 < n
  · go_enter Try.func5, Try.ntmps5
    go_wp2
    go_ret
    exact ⟨rfl, Below.refl _ _⟩
  have hla : a.length ≤ 1000 := by rw [HA.out]; omega
  have hlb : b.length ≤ 1000 := by rw [HB.out]; omega
  have hls : s.length ≤ 1000 := by rw [HN.out]; omega
  have CA := Lib.hid (fun W => parse_is a W (by omega))
  have CB := Lib.hid (fun W => parse_is b W (by omega))
  have CX := Lib.hid (fun W => parse_is (a ++ b) W (by simp; omega))
  have CD := Lib.hid (fun W => does_is W)
  cases hoa : ok a with
  | false =>
    have HO := Lib.hid hoa
    clear hoa CX
    go_enter Try.func5, Try.ntmps5
    go_wp2_with fail
    go_at_call 9
    refine (CA.out _).mono ?_
    rintro e w1 ⟨hs1, hb1⟩
    obtain rfl := hs1.2 HO.out
    have H1 := Lib.hid hb1
    clear hs1 hb1 CA
    go_wp2_with fail
    go_at_call 9
    refine (CB.out _).mono ?_
    rintro e w2 ⟨hs2, hb2⟩
    have H2 := Lib.hid (H1.out.trans (hb2.mono H1.out.size))
    obtain ⟨v, z, rfl⟩ : ∃ v z, e = .returned (.tuple #[v, .int .i64 z]) := by
      cases hob : ok b with
      | true => obtain ⟨v, ps, h, _⟩ := hs2.1 hob; exact ⟨v, 0, h⟩
      | false => exact ⟨_, 110, hs2.2 hob⟩
    clear hs2 hb2 CB
    go_wp2_with fail
    go_at_call 13
    refine (CD.out _).mono ?_
    rintro e w5 ⟨rfl, hb5⟩
    go_wp2
    go_ret
    exact ⟨rfl, H2.out.trans (hb5.mono H2.out.size)⟩
  | true =>
    cases hob : ok b with
    | false =>
      have HO := Lib.hid (And.intro hoa hob)
      clear hoa hob CX
      go_enter Try.func5, Try.ntmps5
      go_wp2_with fail
      go_at_call 9
      refine (CA.out _).mono ?_
      rintro e w1 ⟨hs1, hb1⟩
      obtain ⟨v, ps, rfl, _⟩ := hs1.1 HO.out.1
      have H1 := Lib.hid hb1
      clear hs1 hb1 CA
      go_wp2_with fail
      go_at_call 9
      refine (CB.out _).mono ?_
      rintro e w2 ⟨hs2, hb2⟩
      have H2 := Lib.hid (H1.out.trans (hb2.mono H1.out.size))
      obtain rfl := hs2.2 HO.out.2
      clear hs2 hb2 CB
      go_wp2_with fail
      go_at_call 13
      refine (CD.out _).mono ?_
      rintro e w5 ⟨rfl, hb5⟩
      go_wp2
      go_ret
      exact ⟨rfl, H2.out.trans (hb5.mono H2.out.size)⟩
    | true =>
      obtain ⟨k1, k2, k3⟩ := ok_app a b hoa
      have HO : Hid (ok a = true ∧ ok b = true ∧ ok (a ++ b) = true ∧ mo (a ++ b) = max (mo a) (mo b) ∧ (∀ S, ex S (a ++ b) = ex S a ++ ex S b) ∧ a.length ≤ 1000 ∧ b.length ≤ 1000 ∧ s.length ≤ 1000) := Lib.hid ⟨hoa, hob, k1.trans hob, k2, k3, hla, hlb, hls⟩
      clear hoa hob k1 k2 k3
      go_enter Try.func5, Try.ntmps5
      go_wp2_with fail
      go_at_call 9
      refine (CA.out _).mono ?_
      rintro e w1 ⟨hs1, hb1⟩
      obtain ⟨va, pa, rfl, hTa, hXa, hMa, hLa⟩ := hs1.1 HO.out.1
      have H1 := Lib.hid hb1
      have TA := Lib.hid (And.intro hTa (And.intro hXa (And.intro hMa hLa)))
      clear hs1 hb1 CA hTa hXa hMa hLa
      go_wp2_with fail
      go_at_call 9
      refine (CB.out _).mono ?_
      rintro e w2 ⟨hs2, hb2⟩
      have H2 := Lib.hid (And.intro (H1.out.trans (hb2.mono H1.out.size)) (TA.out.1.below hb2))
      obtain ⟨vb, pb, rfl, hTb, hXb, hMb, hLb⟩ := hs2.1 HO.out.2.1
      have TB := Lib.hid (And.intro hTb (And.intro hXb (And.intro hMb hLb)))
      clear hs2 hb2 CB hTb hXb hMb hLb
      go_wp2_with fail
      go_at_call 9
      refine (CX.out _).mono ?_
      rintro e w3 ⟨hs3, hb3⟩
      have H3 := Lib.hid (And.intro (H2.out.1.trans (hb3.mono H2.out.1.size)) (And.intro (H2.out.2.below hb3) (TB.out.1.below hb3)))
      obtain ⟨vx, px, rfl, hTx, hXx, hMx, hLx⟩ := hs3.1 HO.out.2.2.1
      have TX := Lib.hid (And.intro hTx (And.intro hXx (And.intro hMx hLx)))
      clear hs3 hb3 CX hTx hXx hMx hLx
      go_wp2_with (refine wpList_allocSp rfl rfl ?_; intro w4 hs4 ha4 hb4)
      have H4 := Lib.hid (And.intro ha4 (And.intro hb4 hs4))
      clear ha4 hb4 hs4
      have ad := fun (k : Nat) (hk : k < 10) W => addr23 w3.heap.size k (k : Int) rfl hk W
      go_loopg [14] 10 (fun g s14 wr => ∃ (k : Nat) (f : Nat → Int), s14 = .int .i64 k ∧ k ≤ 10 ∧ 10 - k ≤ g ∧ Hid (Sp wr w3.heap.size f ∧ Below w3.heap.size w3 wr))
      case atStart => exact ⟨0, no0, rfl, by omega, by omega, Lib.hid ⟨H4.out.1, H4.out.2.1⟩⟩
      case round =>
        obtain ⟨k, f, rfl, hk, hg, HI⟩ := hrel
        by_cases hlt : k < 10
        · have adk := ad k hlt
          have hm1 : (0 : Int) ≤ (k : Int) * (n : Int) := Int.mul_nonneg (by omega) (by omega)
          have hm2 : (k : Int) * (n : Int) ≤ 9000 := by
            have : (k : Int) * (n : Int) ≤ 9 * 1000 := Int.mul_le_mul (by omega) (by omega) (by omega) (by omega)
            omega
          generalize hkn : (k : Int) * (n : Int) = kn at hm1 hm2
          clear ad
          go_wp2_with (refine wpList_storeP rfl _ _ rfl w3.heap.size k _ _ rfl rfl f HI.out.1 hlt ?_; intro w5 hs5 ha5 hb5)
          have H5 := Lib.hid (And.intro ha5 hb5)
          clear ha5 hb5 hs5
          go_roundg (10 - (k + 1))
          case measure => omega
          case rel => exact ⟨k + 1, _, by go_num, by omega, by omega, Lib.hid ⟨H5.out.1, HI.out.2.trans H5.out.2⟩⟩
        · obtain rfl : k = 10 := by omega
          clear ad
          obtain ⟨XA, hXA⟩ : ∃ X, ex (stf f s) a = X := ⟨_, rfl⟩
          obtain ⟨XB, hXB⟩ : ∃ X, ex (stf f s) b = X := ⟨_, rfl⟩
          obtain ⟨MA, hMA⟩ : ∃ X, mo a = X := ⟨_, rfl⟩
          obtain ⟨MB, hMB⟩ : ∃ X, mo b = X := ⟨_, rfl⟩
          have hlA : XA.length ≤ 2000000 := by
            rw [← hXA]
            have h1 := ex_len (stf f s) 1000 (fun k => by have := stf_len f s k; have := HO.out.2.2.2.2.2.2.2; omega) a
            have h2 : a.length * (1000 + 1) ≤ 1000 * 1001 := Nat.mul_le_mul HO.out.2.2.2.2.2.1 (by omega)
            omega
          have hlB : XB.length ≤ 2000000 := by
            rw [← hXB]
            have h1 := ex_len (stf f s) 1000 (fun k => by have := stf_len f s k; have := HO.out.2.2.2.2.2.2.2; omega) b
            have h2 : b.length * (1000 + 1) ≤ 1000 * 1001 := Nat.mul_le_mul HO.out.2.2.2.2.2.2.1 (by omega)
            omega
          have KE : Hid (∀ W, Mo wr w3.heap.size f W → Calls Try.prog 12 #[vx, .string (B s), .agg (spA f)] W fun e w' => e = .returned (.string (B (XA ++ XB))) ∧ w'.rangeAt w3.heap.size 0 (spL f) ∧ Mo wr w3.heap.size f w') := Lib.hid (fun W hW => by
            have hq : exP (stf f s) px = XA ++ XB := by rw [TX.out.2.1, HO.out.2.2.2.2.1, hXA, hXB]
            have := expand_is vx px s f W (by have := TX.out.2.2.2; have := HO.out.2.2.2.2.2.1; have := HO.out.2.2.2.2.2.2.1; simp at *; omega) (by have := HO.out.2.2.2.2.2.2.2; omega) (by rw [hq]; simp; omega) (TX.out.1.below (HI.out.2.trans (hW.2.mono HI.out.2.size)))
            rw [hq] at this
            exact this.mono fun e w' h => ⟨h.1, (hW.next h.2).1.range, hW.next h.2⟩)
          have KEa : Hid (∀ W, Mo wr w3.heap.size f W → Calls Try.prog 12 #[va, .string (B s), .agg (spA f)] W fun e w' => e = .returned (.string (B XA)) ∧ w'.rangeAt w3.heap.size 0 (spL f) ∧ Mo wr w3.heap.size f w') := Lib.hid (fun W hW => by
            have hq : exP (stf f s) pa = XA := by rw [TA.out.2.1, hXA]
            have := expand_is va pa s f W (by have := TA.out.2.2.2; have := HO.out.2.2.2.2.2.1; omega) (by have := HO.out.2.2.2.2.2.2.2; omega) (by rw [hq]; omega) (H3.out.2.1.below (HI.out.2.trans (hW.2.mono HI.out.2.size)))
            rw [hq] at this
            exact this.mono fun e w' h => ⟨h.1, (hW.next h.2).1.range, hW.next h.2⟩)
          have KEb : Hid (∀ W, Mo wr w3.heap.size f W → Calls Try.prog 12 #[vb, .string (B s), .agg (spA f)] W fun e w' => e = .returned (.string (B XB)) ∧ w'.rangeAt w3.heap.size 0 (spL f) ∧ Mo wr w3.heap.size f w') := Lib.hid (fun W hW => by
            have hq : exP (stf f s) pb = XB := by rw [TB.out.2.1, hXB]
            have := expand_is vb pb s f W (by have := TB.out.2.2.2; have := HO.out.2.2.2.2.2.2.1; omega) (by have := HO.out.2.2.2.2.2.2.2; omega) (by rw [hq]; omega) (H3.out.2.2.below (HI.out.2.trans (hW.2.mono HI.out.2.size)))
            rw [hq] at this
            exact this.mono fun e w' h => ⟨h.1, (hW.next h.2).1.range, hW.next h.2⟩)
          have KM : Hid (∀ W, Mo wr w3.heap.size f W → Calls Try.prog 11 #[vx] W fun e w' => e = .returned (.int .i64 (max (MA : Int) (MB : Int))) ∧ w'.rangeAt w3.heap.size 0 (spL f) ∧ Mo wr w3.heap.size f w') := Lib.hid (fun W hW => by
            have hq : (moP px : Int) = max (MA : Int) (MB : Int) := by rw [TX.out.2.2.1, HO.out.2.2.2.1, hMA, hMB]; omega
            have := most_is vx px W (by have := TX.out.2.2.2; have := HO.out.2.2.2.2.2.1; have := HO.out.2.2.2.2.2.2.1; simp at *; omega) (TX.out.1.below (HI.out.2.trans (hW.2.mono HI.out.2.size)))
            rw [hq] at this
            exact this.mono fun e w' h => ⟨h.1, by rw [h.2]; exact hW.1.range, by rw [h.2]; exact hW⟩)
          have KMa : Hid (∀ W, Mo wr w3.heap.size f W → Calls Try.prog 11 #[va] W fun e w' => e = .returned (.int .i64 (MA : Int)) ∧ w'.rangeAt w3.heap.size 0 (spL f) ∧ Mo wr w3.heap.size f w') := Lib.hid (fun W hW => by
            have := most_is va pa W (by have := TA.out.2.2.2; have := HO.out.2.2.2.2.2.1; omega) (H3.out.2.1.below (HI.out.2.trans (hW.2.mono HI.out.2.size)))
            rw [TA.out.2.2.1, hMA] at this
            exact this.mono fun e w' h => ⟨h.1, by rw [h.2]; exact hW.1.range, by rw [h.2]; exact hW⟩)
          have KMb : Hid (∀ W, Mo wr w3.heap.size f W → Calls Try.prog 11 #[vb] W fun e w' => e = .returned (.int .i64 (MB : Int)) ∧ w'.rangeAt w3.heap.size 0 (spL f) ∧ Mo wr w3.heap.size f w') := Lib.hid (fun W hW => by
            have := most_is vb pb W (by have := TB.out.2.2.2; have := HO.out.2.2.2.2.2.2.1; omega) (H3.out.2.2.below (HI.out.2.trans (hW.2.mono HI.out.2.size)))
            rw [TB.out.2.2.1, hMB] at this
            exact this.mono fun e w' h => ⟨h.1, by rw [h.2]; exact hW.1.range, by rw [h.2]; exact hW⟩)
          have KD : Hid (∀ W, Mo wr w3.heap.size f W → Calls Try.prog 13 #[] W fun e w' => e = .returned (.bool true) ∧ w'.rangeAt w3.heap.size 0 (spL f) ∧ Mo wr w3.heap.size f w') := Lib.hid (fun W hW => (CD.out W).mono fun e w' h => ⟨h.1, (hW.next h.2).1.range, hW.next h.2⟩)
          have M1 : Mo wr w3.heap.size f wr := Mo.start HI.out.1
          have M1' : Mo wr w3.heap.size f wr.drew := M1.drew
          have R1 : wr.rangeAt w3.heap.size 0 (spL f) := HI.out.1.range
          have R1' : wr.drew.rangeAt w3.heap.size 0 (spL f) := M1'.1.range
          have hu23 := und23
          have hi23 : (Try.prog.info? 23).map (·.size) = some (spL f).length := by rw [spL_len]; exact inf23
          have hle7 : ¬ 9223372036854775807 < XA.length + XB.length := by omega
          have heq7 : (B XA ++ B XB).toList = XA ++ XB := by rw [B_app, Lib.toList_data, list_B]
          obtain ⟨ba, rfl⟩ : ∃ b, va = .pointer (some ⟨b, 0, none⟩) := by obtain ⟨b, A, c, e, _⟩ := TA.out.1; exact ⟨b, e⟩
          obtain ⟨bb, rfl⟩ : ∃ b, vb = .pointer (some ⟨b, 0, none⟩) := by obtain ⟨b, A, c, e, _⟩ := TB.out.1; exact ⟨b, e⟩
          obtain ⟨bx, rfl⟩ : ∃ b, vx = .pointer (some ⟨b, 0, none⟩) := by obtain ⟨b, A, c, e, _⟩ := TX.out.1; exact ⟨b, e⟩
          have HZ := Lib.hid (H3.out.1.trans (HI.out.2.mono H3.out.1.size))
          clear hXA hXB hMA hMB CD
          go_wp2_with fail
          refine wp_region_noPanic ?_
          refine wp_region_held_drew (S := fun W => W.rangeAt w3.heap.size 0 (spL f) ∧ Mo wr w3.heap.size f W) (by kernel_rfl) (by (try dsimp only); (first | assumption | exact ⟨by assumption, by assumption⟩)) (fun hHeld => ?_)
          refine held.take (i := 0) (v := _) rfl (by kernel_rfl) (by kernel_rfl) (by kernel_rfl) (fun _ _ _ h => h) (Or.inl ⟨by rfl, fun _ _ => rfl⟩) (by assumption) ?_
          (try simp only [Act.put, List.setIfInBounds_toArray, List.set_cons_zero, List.set_cons_succ])
          refine held.take (i := 1) (v := .bool true) rfl (by kernel_rfl) (by kernel_rfl) (by kernel_rfl) (fun _ _ _ h => h) (Or.inl ⟨by rfl, fun W hW => by go_simp⟩) (by assumption) ?_
          (try simp only [Act.put, List.setIfInBounds_toArray, List.set_cons_zero, List.set_cons_succ])
          refine held.take (i := 2) (v := _) rfl (by kernel_rfl) (by kernel_rfl) (by kernel_rfl) (fun _ _ _ h => h) (Or.inl ⟨by rfl, fun _ _ => rfl⟩) (by assumption) ?_
          (try simp only [Act.put, List.setIfInBounds_toArray, List.set_cons_zero, List.set_cons_succ])
          refine held.take (i := 3) (v := _) rfl (by kernel_rfl) (by kernel_rfl) (by kernel_rfl) (fun _ _ _ h => h) (Or.inl ⟨by rfl, fun _ _ => rfl⟩) (by assumption) ?_
          (try simp only [Act.put, List.setIfInBounds_toArray, List.set_cons_zero, List.set_cons_succ])
          refine held.take (i := 4) (v := _) rfl (by kernel_rfl) (by kernel_rfl) (by kernel_rfl) (fun _ _ _ h => h) (Or.inl ⟨by rfl, fun _ _ => rfl⟩) (by assumption) ?_
          (try simp only [Act.put, List.setIfInBounds_toArray, List.set_cons_zero, List.set_cons_succ])
          refine held.take (i := 5) (v := _) rfl (by kernel_rfl) (by kernel_rfl) (by kernel_rfl) (fun _ _ _ h => h) (yieldsIf_load_mid (by rfl) _ _ rfl _ _ rfl _ _ (fun W hW => And.left hW) hu23 rfl hi23) (by assumption) ?_
          (try simp only [Act.put, List.setIfInBounds_toArray, List.set_cons_zero, List.set_cons_succ])
          refine held.take (i := 7) (v := _) rfl (by kernel_rfl) (by kernel_rfl) (by kernel_rfl) (fun _ _ _ h => h) (Or.inl ⟨by rfl, fun _ _ => rfl⟩) (by assumption) ?_
          (try simp only [Act.put, List.setIfInBounds_toArray, List.set_cons_zero, List.set_cons_succ])
          refine held.take (i := 8) (v := _) rfl (by kernel_rfl) (by kernel_rfl) (by kernel_rfl) (fun _ _ _ h => h) (Or.inl ⟨by rfl, fun _ _ => rfl⟩) (by assumption) ?_
          (try simp only [Act.put, List.setIfInBounds_toArray, List.set_cons_zero, List.set_cons_succ])
          refine held.take (i := 9) (v := _) rfl (by kernel_rfl) (by kernel_rfl) (by kernel_rfl) (fun _ _ _ h => h) (yieldsIf_load_mid (by rfl) _ _ rfl _ _ rfl _ _ (fun W hW => And.left hW) hu23 rfl hi23) (by assumption) ?_
          (try simp only [Act.put, List.setIfInBounds_toArray, List.set_cons_zero, List.set_cons_succ])
          refine held.take (i := 11) (v := _) rfl (by kernel_rfl) (by kernel_rfl) (by kernel_rfl) (fun _ _ _ h => h) (Or.inl ⟨by rfl, fun _ _ => rfl⟩) (by assumption) ?_
          (try simp only [Act.put, List.setIfInBounds_toArray, List.set_cons_zero, List.set_cons_succ])
          refine held.take (i := 12) (v := _) rfl (by kernel_rfl) (by kernel_rfl) (by kernel_rfl) (fun _ _ _ h => h) (Or.inl ⟨by rfl, fun _ _ => rfl⟩) (by assumption) ?_
          (try simp only [Act.put, List.setIfInBounds_toArray, List.set_cons_zero, List.set_cons_succ])
          refine held.take (i := 13) (v := _) rfl (by kernel_rfl) (by kernel_rfl) (by kernel_rfl) (fun _ _ _ h => h) (yieldsIf_load_mid (by rfl) _ _ rfl _ _ rfl _ _ (fun W hW => And.left hW) hu23 rfl hi23) (by assumption) ?_
          (try simp only [Act.put, List.setIfInBounds_toArray, List.set_cons_zero, List.set_cons_succ])
          refine held.only (i := 6) (by kernel_rfl) rfl (fun K hK => ?_)
          go_simp
          go_at_call 12; refine (KE.out _ ?_).mono ?_; (exact And.right hHeld); rintro e w' ⟨rfl, hQ, hS⟩
          refine hK.out _ _ (by (try dsimp only); (first | assumption | exact ⟨by assumption, by assumption⟩)) (fun hHeld => ?_)
          clear hK K
          (try simp only [Act.put, List.setIfInBounds_toArray, List.set_cons_zero, List.set_cons_succ])
          refine held.only (i := 10) (by kernel_rfl) rfl (fun K hK => ?_)
          go_simp
          go_at_call 12; refine (KEa.out _ ?_).mono ?_; (exact And.right hHeld); rintro e w' ⟨rfl, hQ, hS⟩
          refine hK.out _ _ (by (try dsimp only); (first | assumption | exact ⟨by assumption, by assumption⟩)) (fun hHeld => ?_)
          clear hK K
          (try simp only [Act.put, List.setIfInBounds_toArray, List.set_cons_zero, List.set_cons_succ])
          refine held.only (i := 14) (by kernel_rfl) rfl (fun K hK => ?_)
          go_simp
          go_at_call 12; refine (KEb.out _ ?_).mono ?_; (exact And.right hHeld); rintro e w' ⟨rfl, hQ, hS⟩
          refine hK.out _ _ (by (try dsimp only); (first | assumption | exact ⟨by assumption, by assumption⟩)) (fun hHeld => ?_)
          clear hK K
          (try simp only [Act.put, List.setIfInBounds_toArray, List.set_cons_zero, List.set_cons_succ])
          refine held.take (i := 15) (v := .string (B XA ++ B XB)) rfl (by kernel_rfl) (by kernel_rfl) (by kernel_rfl) (fun _ _ _ h => h) (Or.inl ⟨by rfl, fun W hW => by go_simp⟩) (by assumption) ?_
          (try simp only [Act.put, List.setIfInBounds_toArray, List.set_cons_zero, List.set_cons_succ])
          refine held.take (i := 16) (v := .bool true) rfl (by kernel_rfl) (by kernel_rfl) (by kernel_rfl) (fun _ _ _ h => h) (Or.inl ⟨by rfl, fun W hW => by go_simp⟩) (by assumption) ?_
          (try simp only [Act.put, List.setIfInBounds_toArray, List.set_cons_zero, List.set_cons_succ])
          refine held.take (i := 17) (v := .bool true) rfl (by kernel_rfl) (by kernel_rfl) (by kernel_rfl) (fun _ _ _ h => h) (Or.inl ⟨by rfl, fun W hW => by go_simp⟩) (by assumption) ?_
          (try simp only [Act.put, List.setIfInBounds_toArray, List.set_cons_zero, List.set_cons_succ])
          refine held.take (i := 18) (v := _) rfl (by kernel_rfl) (by kernel_rfl) (by kernel_rfl) (fun _ _ _ h => h) (Or.inl ⟨by rfl, fun _ _ => rfl⟩) (by assumption) ?_
          (try simp only [Act.put, List.setIfInBounds_toArray, List.set_cons_zero, List.set_cons_succ])
          refine held.take (i := 19) (v := _) rfl (by kernel_rfl) (by kernel_rfl) (by kernel_rfl) (fun _ _ _ h => h) (Or.inl ⟨by rfl, fun _ _ => rfl⟩) (by assumption) ?_
          (try simp only [Act.put, List.setIfInBounds_toArray, List.set_cons_zero, List.set_cons_succ])
          refine held.take (i := 21) (v := _) rfl (by kernel_rfl) (by kernel_rfl) (by kernel_rfl) (fun _ _ _ h => h) (Or.inl ⟨by rfl, fun _ _ => rfl⟩) (by assumption) ?_
          (try simp only [Act.put, List.setIfInBounds_toArray, List.set_cons_zero, List.set_cons_succ])
          refine held.take (i := 23) (v := _) rfl (by kernel_rfl) (by kernel_rfl) (by kernel_rfl) (fun _ _ _ h => h) (Or.inl ⟨by rfl, fun _ _ => rfl⟩) (by assumption) ?_
          (try simp only [Act.put, List.setIfInBounds_toArray, List.set_cons_zero, List.set_cons_succ])
          refine held.only (i := 20) (by kernel_rfl) rfl (fun K hK => ?_)
          go_simp
          go_at_call 11; refine (KM.out _ ?_).mono ?_; (exact And.right hHeld); rintro e w' ⟨rfl, hQ, hS⟩
          refine hK.out _ _ (by (try dsimp only); (first | assumption | exact ⟨by assumption, by assumption⟩)) (fun hHeld => ?_)
          clear hK K
          (try simp only [Act.put, List.setIfInBounds_toArray, List.set_cons_zero, List.set_cons_succ])
          refine held.only (i := 22) (by kernel_rfl) rfl (fun K hK => ?_)
          go_simp
          go_at_call 11; refine (KMa.out _ ?_).mono ?_; (exact And.right hHeld); rintro e w' ⟨rfl, hQ, hS⟩
          refine hK.out _ _ (by (try dsimp only); (first | assumption | exact ⟨by assumption, by assumption⟩)) (fun hHeld => ?_)
          clear hK K
          (try simp only [Act.put, List.setIfInBounds_toArray, List.set_cons_zero, List.set_cons_succ])
          refine held.only (i := 24) (by kernel_rfl) rfl (fun K hK => ?_)
          go_simp
          go_at_call 11; refine (KMb.out _ ?_).mono ?_; (exact And.right hHeld); rintro e w' ⟨rfl, hQ, hS⟩
          refine hK.out _ _ (by (try dsimp only); (first | assumption | exact ⟨by assumption, by assumption⟩)) (fun hHeld => ?_)
          clear hK K
          (try simp only [Act.put, List.setIfInBounds_toArray, List.set_cons_zero, List.set_cons_succ])
          refine held.only (i := 25) (by kernel_rfl) rfl (fun K hK => ?_)
          go_simp
          skip
          refine hK.out _ _ (by (try dsimp only); (first | assumption | exact ⟨by assumption, by assumption⟩)) (fun hHeld => ?_)
          clear hK K
          (try simp only [Act.put, List.setIfInBounds_toArray, List.set_cons_zero, List.set_cons_succ])
          refine held.take (i := 26) (v := .bool true) rfl (by kernel_rfl) (by kernel_rfl) (by kernel_rfl) (fun _ _ _ h => h) (Or.inl ⟨by rfl, fun W hW => by go_simp⟩) (by assumption) ?_
          (try simp only [Act.put, List.setIfInBounds_toArray, List.set_cons_zero, List.set_cons_succ])
          refine held.take (i := 27) (v := .bool true) rfl (by kernel_rfl) (by kernel_rfl) (by kernel_rfl) (fun _ _ _ h => h) (Or.inl ⟨by rfl, fun W hW => by go_simp⟩) (by assumption) ?_
          (try simp only [Act.put, List.setIfInBounds_toArray, List.set_cons_zero, List.set_cons_succ])
          refine held.take (i := 28) (v := _) rfl (by kernel_rfl) (by kernel_rfl) (by kernel_rfl) (fun _ _ _ h => h) (Or.inl ⟨by rfl, fun _ _ => rfl⟩) (by assumption) ?_
          (try simp only [Act.put, List.setIfInBounds_toArray, List.set_cons_zero, List.set_cons_succ])
          refine held.only (i := 29) (by kernel_rfl) rfl (fun K hK => ?_)
          go_simp
          go_at_call 13; refine (KD.out _ ?_).mono ?_; (exact And.right hHeld); rintro e w' ⟨rfl, hQ, hS⟩
          refine hK.out _ _ (by (try dsimp only); (first | assumption | exact ⟨by assumption, by assumption⟩)) (fun hHeld => ?_)
          clear hK K
          (try simp only [Act.put, List.setIfInBounds_toArray, List.set_cons_zero, List.set_cons_succ])
          refine held.take (i := 30) (v := .bool true) rfl (by kernel_rfl) (by kernel_rfl) (by kernel_rfl) (fun _ _ _ h => h) (Or.inl ⟨by rfl, fun W hW => by go_simp⟩) (by assumption) ?_
          (try simp only [Act.put, List.setIfInBounds_toArray, List.set_cons_zero, List.set_cons_succ])
          refine held.take (i := 31) (v := _) rfl (by kernel_rfl) (by kernel_rfl) (by kernel_rfl) (fun _ _ _ h => h) (Or.inl ⟨by rfl, fun _ _ => rfl⟩) (by assumption) ?_
          (try simp only [Act.put, List.setIfInBounds_toArray, List.set_cons_zero, List.set_cons_succ])
          refine wpAnyH_done (by kernel_rfl) ?_ _
          refine NoPanic.normal ?_
          have HE := Lib.hid (HZ.out.trans (hHeld.2.2.mono HZ.out.size))
          clear hHeld hQ hS KE KEa KEb KM KMa KMb KD M1 M1' R1 R1' hu23 hi23
          go_wp2
          go_ret
          exact ⟨rfl, HE.out⟩
theorem law5L (a b s : ByteArray) (w : World) (ha : a.size ≤ maxLen) (hb : b.size ≤ maxLen) (hs : s.size ≤ maxLen) :
    Calls Try.prog 5 #[.string a, .string b, .string s] w fun e w' => e = .returned (.bool true) ∧ Below w.heap.size w w' := by
  have := law5 a.data.toList b.data.toList s.data.toList w (by rw [Array.length_toList]; exact ha) (by rw [Array.length_toList]; exact hb) (by rw [Array.length_toList]; exact hs)
  rwa [B_list, B_list, B_list] at this
end Go.Proofs.Ytibflbepnlemmaa.tpl
