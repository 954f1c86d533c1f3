/- The document's answer: Parse; ClassesParse. -/
import Derived.Test.YtmemdmjfccepgaaClsRefPart
namespace Go.Proofs.Ytmemdmjfccepgaa.cls
open Go.RowKit Go.Lib
set_option linter.unusedVariables false
set_option linter.unusedSimpArgs false
set_option linter.unnecessarySimpa false
set_option linter.unusedSectionVars false

theorem partN_suffix (l : List UInt8) (x) (h : partN l = some x) : x.2 <:+ l := by
  unfold partN at h
  split at h
  · cases h
  · split at h
    · obtain ⟨n, hn, _⟩ := nameN_some _ _ h
      have := cutE_some _ _ hn
      exact List.IsSuffix.trans ⟨n ++ [58, 93], by rw [this]; simp⟩ (List.drop_suffix 2 l)
    · split at h
      · cases h
      · split at h
        · split at h
          · cases h
          · simp only [Option.some.injEq] at h
            subst h
            exact List.drop_suffix 3 l
        · simp only [Option.some.injEq] at h
          subst h
          exact List.drop_suffix 1 l
theorem next_drop (l : List UInt8) (i : Nat) (x) (h : partN (l.drop i) = some x) : x.2 = l.drop (l.length - x.2.length) := by
  have hs : x.2 <:+ l := (partN_suffix _ x h).trans (List.drop_suffix i l)
  exact List.suffix_iff_eq_drop.1 hs
/-- The parts go on. -/
def Goes (b : Bool) (l : List UInt8) : Prop := ¬ (b = false ∧ l.head? = some 93)
theorem refPart_b (l : List UInt8) (k : Nat) (w : World) (hl : l.length ≤ 1000000000) (hk : k ≤ l.length) :
    Calls Try.prog 21 #[.string (B l), .int .i64 (k : Int)] w (RefSays l (partN (l.drop k)) w) := refPart_is l k _ rfl w hl hk

set_option maxHeartbeats 8000000 in
set_option maxRecDepth 100000 in
theorem refParse_in (l : List UInt8) (k : Nat) (R : Option ((Nat → Bool) × List UInt8)) (hR : parseL (l.drop k) = R) (w : World) (hl : l.length ≤ 1000000000) (hk : k < l.length) :
    Calls Try.prog 11 #[.string (B l), .int .i64 (k : Int)] w fun e w' => e = .returned (retP l R) ∧ Below w.heap.size w w' := by
  have HR := Lib.hid hR
  have HLL := Lib.hid hl
  obtain ⟨m, hm⟩ : ∃ m, l.length = m := ⟨_, rfl⟩
  have hsz : (B l).size = m := by rw [B_size]; exact hm
  have HM := Lib.hid hm
  rw [hm] at hl hk
  clear hR hm
  have j0 := index_at l k k rfl (by rw [HM.out]; exact hk)
  obtain ⟨a, ha⟩ : ∃ a, (l.getD k 0).toNat = a := ⟨_, rfl⟩
  have a6 : a < 256 := by rw [← ha]; exact (l.getD k 0).toNat_lt
  rw [ha] at j0
  have hd0 := drop_one' l k (by rw [HM.out]; exact hk)
  have hk0 : decide ((k : Int) < 0) = false := decide_eq_false (by omega)
  have hk1 : ¬ ((k : Int) < 0) := by omega
  by_cases h91 : a = 91
  · subst h91
    have e91 : l.getD k 0 = 91 := UInt8.toNat_inj.1 ha
    rw [e91] at hd0
    have hhead : (l.drop k).head? = some 91 := by rw [hd0]; rfl
    have hdd : (l.drop k).drop 1 = l.drop (k + 1) := by rw [List.drop_drop]
    have hdd2 : (l.drop k).drop 2 = l.drop (k + 2) := by rw [List.drop_drop]
    by_cases hn : k + 1 < m ∧ (l.getD (k + 1) 0).toNat = 94
    · have j1 := index_at l (k + 1) ((k : Int) + 1) (by omega) (by rw [HM.out]; omega)
      rw [hn.2] at j1
      have hres : R = (allN noB (l.drop (k + 2))).map fun x => (not1 x.1, x.2) := by
        rw [← HR.out]
        unfold parseL
        rw [if_pos hhead, hdd, if_pos, hdd2]
        rw [drop_one' l (k + 1) (by rw [HM.out]; omega)]
        simp only [List.head?_cons, Option.some.injEq]
        exact UInt8.toNat_inj.1 hn.2
      have hn1 := hn.1
      obtain ⟨T, hT⟩ : ∃ T, allN noB (l.drop (k + 2)) = T := ⟨_, rfl⟩
      rw [hT] at hres
      have HT := Lib.hid hT
      have HRES := Lib.hid hres
      clear hres hT hn hhead hdd hdd2 hd0 e91 ha HR
      go_enter Try.func11, Try.ntmps11
      go_wp2_with (refine wpList_allocA rfl rfl ?_; (first | (have := hs1; intro w2 hs2 ha2 hb2; clear this) | (have := hs0; intro w1 hs1 ha1 hb1; clear this) | (intro w0 hs0 ha0 hb0)))
      have HB := Lib.hid ((hb0.trans (hb1.mono (by omega))).trans (hb2.mono (by omega)))
      have H0 := Lib.hid ((ha0.keep hb1 (by omega)).keep hb2 (by omega))
      have H1 : Hid (Arr w2 (w.heap.size + 1) noB) := Lib.hid (by rw [← hs0]; exact ha1.keep hb2 (by omega))
      have H2 : Hid (Arr w2 (w.heap.size + 2) noB) := Lib.hid (by have : w1.heap.size = w.heap.size + 2 := by omega
                                                                  rw [← this]; exact ha2)
      have HS := Lib.hid (show w2.heap.size = w.heap.size + 3 by omega)
      clear ha0 hb0 ha1 hb1 hs1 ha2 hb2 hs2
      go_loopg [9, 11] (m + 2) (fun g' s9 s11 wr => ∃ (i : Nat) (first : Bool) (f : Nat → Bool), s9 = .int .i64 i ∧ s11 = .bool first ∧ m - i + 1 < g' ∧ i ≤ m ∧ Hid (partsN ((l.drop i).length + 1) first f (l.drop i) = T ∧ Arr wr (w.heap.size + 1) f ∧ Arr wr w.heap.size noB ∧ Arr wr (w.heap.size + 2) noB ∧ Below w.heap.size w wr ∧ w.heap.size + 3 ≤ wr.heap.size))
      case atStart => exact ⟨k + 2, true, noB, by go_num, rfl, by omega, by omega, Lib.hid ⟨HT.out, H1.out, H0.out, H2.out, HB.out, Nat.le_of_eq HS.out.symm⟩⟩
      case round =>
        obtain ⟨i, first, f, rfl, rfl, hg, him, HI⟩ := hrel
        have CP := Lib.hid (fun W => refPart_b l i W HLL.out (by rw [HM.out]; exact him))
        obtain ⟨P, hP⟩ : ∃ P, partN (l.drop i) = P := ⟨_, rfl⟩
        rw [hP] at CP
        have HP := Lib.hid hP
        have HI2 := Lib.hid HI.out.2.2
        have HI1 := Lib.hid HI.out.2.1
        clear hP
        cases first with
        | true =>
          have hcond : Goes true (l.drop i) := fun h => by cases h.1
          have HC := Lib.hid hcond
          clear hcond
          go_wp2_with fail
          go_at_call 21
          refine (CP.out wr).mono ?_
          rintro e w3 ⟨hb3, hh⟩
          rcases hh with ⟨hr, z, n, rfl⟩ | ⟨g, r, hr, rfl⟩
          · have hTn : T = none := by
              rw [← HI.out.1]
              exact partsN_none _ _ _ _ HC.out (by rw [HP.out]; exact hr)
            have hres : R = none := by rw [HRES.out, hTn]; rfl
            subst hres
            have hz3 := hb3.size
            have K0 := HI2.out.1.keep hb3 (by have := HI2.out.2.2.2; omega)
            have K2 := HI2.out.2.1.keep hb3 (by have := HI2.out.2.2.2; omega)
            have HB3 := Lib.hid (HI2.out.2.2.1.trans (hb3.mono (by have := HI2.out.2.2.2; omega)))
            have HZ3 := Lib.hid (show w.heap.size + 3 ≤ w3.heap.size by have := HI2.out.2.2.2; omega)
            clear hb3 hr hTn
            go_wp2_with (first | (refine wpList_allocA rfl rfl ?_; intro w4 hs4 ha4 hb4; have M0 := K0.keep hb4 (by have := HZ3.out; omega); have M2 := K2.keep hb4 (by have := HZ3.out; omega)) | (refine wpList_storeA rfl _ _ rfl _ _ rfl rfl _ ha4 ?_; intro w5 ha5 hb5; have N0 := M0.but hb5 (by have := HZ3.out; omega); have N2 := M2.but hb5 (by have := HZ3.out; omega)) | (refine wpList_loadA rfl _ rfl _ rfl _ N2 ?_) | (refine wpList_storeA rfl _ _ rfl _ _ rfl rfl _ N0 ?_; intro w6 ha6 hb6))
            (try simp only [Exit.inBlock, Exit.then])
            refine bodyPost_ret (results_A3 rfl rfl ha6) rfl ?_
            exact ⟨rfl, ((HB3.out.trans (hb4.mono (by have := HZ3.out; omega))).trans (hb5.below (by have := HZ3.out; omega))).trans (hb6.below (Nat.le_refl _))⟩
          · have hPg : partN (l.drop i) = some (g, r) := by rw [HP.out]; exact hr
            have hnx := next_drop l i _ hPg
            have hlen := partN_len _ _ hPg
            simp only at hnx hlen
            rw [List.length_drop, HM.out] at hlen
            obtain ⟨nx, hnx2⟩ : ∃ nx, m - r.length = nx := ⟨_, rfl⟩
            rw [HM.out, hnx2] at hnx
            have hnxm : nx ≤ m := by omega
            have hnxi : i < nx := by omega
            have enx : (l.length : Int) - r.length = (nx : Int) := by rw [HM.out]; omega
            rw [enx]
            have hTs : partsN ((l.drop nx).length + 1) false (or2 f g) (l.drop nx) = T := by
              rw [← HI.out.1, partsN_step _ _ _ _ _ HC.out hPg]
              show partsN _ false (or2 f g) (l.drop nx) = partsN _ false (or2 f g) r
              rw [hnx]
              exact partsN_fuel _ _ _ _ _ (by omega) (by rw [List.length_drop, List.length_drop, HM.out]; omega)
            have HTS := Lib.hid hTs
            have hz3 := hb3.size
            have HZ3 := Lib.hid (show w.heap.size + 3 ≤ w3.heap.size by have := HI2.out.2.2.2; omega)
            have K0 := HI2.out.1.keep hb3 (by have := HI2.out.2.2.2; omega)
            have K1 := HI1.out.keep hb3 (by have := HI2.out.2.2.2; omega)
            have K2 := HI2.out.2.1.keep hb3 (by have := HI2.out.2.2.2; omega)
            have HB3 := Lib.hid (HI2.out.2.2.1.trans (hb3.mono (by have := HI2.out.2.2.2; omega)))
            clear hb3 hr hTs hPg hnx hlen enx hnx2
            go_wp2_with (first | (refine wpList_allocA rfl rfl ?_; intro w4 hs4 ha4 hb4) | (refine wpList_storeA rfl _ _ rfl _ _ rfl rfl _ ha4 ?_; intro w5 ha5 hb5))
            have N0 := Lib.hid ((K0.keep hb4 (by have := HZ3.out; omega)).but hb5 (by have := HZ3.out; omega))
            have N1 := Lib.hid ((K1.keep hb4 (by have := HZ3.out; omega)).but hb5 (by have := HZ3.out; omega))
            have N2 := Lib.hid ((K2.keep hb4 (by have := HZ3.out; omega)).but hb5 (by have := HZ3.out; omega))
            have NP := Lib.hid ha5
            have NB := Lib.hid ((HB3.out.trans (hb4.mono (by have := HZ3.out; omega))).trans (hb5.below (by have := HZ3.out; omega)))
            have NZ := Lib.hid (show w.heap.size + 3 ≤ w5.heap.size by have := HZ3.out; rw [hb5.size, hs4]; omega)
            clear K0 K1 K2 ha4 hb4 ha5 hb5 hs4
            go_loopg [15] 256 (fun g'' s15 wx => ∃ c : Nat, s15 = .int .i64 c ∧ c ≤ 256 ∧ 256 - c ≤ g'' ∧ Hid (Arr wx (w.heap.size + 1) (mix c (or2 f g) f) ∧ But (w.heap.size + 1) w5 wx))
            case atStart => exact ⟨0, rfl, Nat.zero_le _, by omega, Lib.hid ⟨by rw [mix_zero]; exact N1.out, But.refl⟩⟩
            case round =>
              obtain ⟨c, rfl, hc, hgc, HX⟩ := hrel
              by_cases hlt : c < 256
              · have hc1 := HX.out.1.cell hlt
                rw [mix_at] at hc1
                have hcp := (NP.out.but HX.out.2 (by have := HZ3.out; omega)).cell hlt
                have hst := setCell_put HX.out.1 c (or2 f g c) hlt
                rw [mix_upd] at hst
                have hfz := HX.out.1.frozen c
                have HPP := Lib.hid (And.intro (putA_arr (g := mix (c + 1) (or2 f g) f) HX.out.1.lt) (putA_but (w := wr) (b := w.heap.size + 1) (g := mix (c + 1) (or2 f g) f)))
                obtain ⟨wy, hwy⟩ : ∃ wy, putA wr (w.heap.size + 1) (mix (c + 1) (or2 f g) f) = wy := ⟨_, rfl⟩
                rw [hwy] at hst HPP
                cases hfc : f c with
                | true =>
                  have e : or2 f g c = true := by simp [or2, hfc]
                  rw [e] at hst
                  rw [hfc] at hc1
                  clear e hfc hwy
                  go_wp2
                  go_roundg (256 - (c + 1))
                  case measure => omega
                  case rel => exact ⟨c + 1, by go_num, by omega, by omega, Lib.hid ⟨HPP.out.1, HX.out.2.trans HPP.out.2⟩⟩
                | false =>
                  have e : or2 f g c = g c := by simp [or2, hfc]
                  rw [e] at hst
                  rw [hfc] at hc1
                  clear e hfc hwy
                  go_wp2
                  go_roundg (256 - (c + 1))
                  case measure => omega
                  case rel => exact ⟨c + 1, by go_num, by omega, by omega, Lib.hid ⟨HPP.out.1, HX.out.2.trans HPP.out.2⟩⟩
              · obtain rfl : c = 256 := by omega
                have A1 : Hid (Arr wr (w.heap.size + 1) (or2 f g)) := Lib.hid (by have := HX.out.1; unfold Arr at this ⊢; rw [mix_end] at this; exact this)
                go_wp2
                go_roundg (m - nx + 2)
                case measure => omega
                case rel => exact ⟨nx, false, or2 f g, rfl, rfl, by omega, hnxm, Lib.hid ⟨HTS.out, A1.out, N0.out.but HX.out.2 (by omega), N2.out.but HX.out.2 (by omega), NB.out.trans (HX.out.2.below (by omega)), by rw [HX.out.2.size]; exact NZ.out⟩⟩
        | false =>
          by_cases hi : i < m
          · have ji := index_at l i i rfl (by rw [HM.out]; exact hi)
            obtain ⟨x, hx⟩ : ∃ x, (l.getD i 0).toNat = x := ⟨_, rfl⟩
            have x6 : x < 256 := by rw [← hx]; exact (l.getD i 0).toNat_lt
            rw [hx] at ji
            have hdi := drop_one' l i (by rw [HM.out]; exact hi)
            by_cases h93 : x = 93
            · subst h93
              have e93 : l.getD i 0 = 93 := UInt8.toNat_inj.1 hx
              have hTe : T = some (f, l.drop (i + 1)) := by
                rw [← HI.out.1, partsN_end _ f (l.drop i) (by rw [hdi, e93]; rfl), List.drop_drop]
              rw [hTe] at HRES
              have HRR := Lib.hid HRES.out
              clear hx hdi e93 hTe HRES
              have mi : decide (m ≤ i) = false := decide_eq_false (by omega)
              have mi2 : ¬ m ≤ i := by omega
              go_wp2
              go_loopg [16] 256 (fun g'' s16 wx => ∃ c : Nat, s16 = .int .i64 c ∧ c ≤ 256 ∧ 256 - c ≤ g'' ∧ Hid (Arr wx (w.heap.size + 1) (mix c (not1 f) f) ∧ But (w.heap.size + 1) wr wx))
              case atStart => exact ⟨0, rfl, Nat.zero_le _, by omega, Lib.hid ⟨by rw [mix_zero]; exact HI1.out, But.refl⟩⟩
              case round =>
                obtain ⟨c, rfl, hc, hgc, HX⟩ := hrel
                by_cases hlt : c < 256
                · have hc1 := HX.out.1.cell hlt
                  rw [mix_at] at hc1
                  have hst := setCell_put HX.out.1 c (!f c) hlt
                  have e3 : upd (mix c (not1 f) f) c (!f c) = mix (c + 1) (not1 f) f := mix_upd c (not1 f) f
                  rw [e3] at hst
                  have hfz := HX.out.1.frozen c
                  have HPP := Lib.hid (And.intro (putA_arr (g := mix (c + 1) (not1 f) f) HX.out.1.lt) (putA_but (w := wr) (b := w.heap.size + 1) (g := mix (c + 1) (not1 f) f)))
                  obtain ⟨wy, hwy⟩ : ∃ wy, putA wr (w.heap.size + 1) (mix (c + 1) (not1 f) f) = wy := ⟨_, rfl⟩
                  rw [hwy] at hst HPP
                  clear e3 hwy
                  go_wp2
                  go_roundg (256 - (c + 1))
                  case measure => omega
                  case rel => exact ⟨c + 1, by go_num, by omega, by omega, Lib.hid ⟨HPP.out.1, HX.out.2.trans HPP.out.2⟩⟩
                · obtain rfl : c = 256 := by omega
                  have hA1 : Arr wr (w.heap.size + 1) (not1 f) := by have := HX.out.1; unfold Arr at this ⊢; rw [mix_end] at this; exact this
                  have hA0 := HI2.out.1.but HX.out.2 (by omega)
                  go_wp2_with (first | (refine wpList_loadA rfl _ rfl _ rfl _ hA1 ?_) | (refine wpList_storeA rfl _ _ rfl _ _ rfl rfl _ hA0 ?_; intro w4 ha4 hb4))
                  (try simp only [Exit.inBlock, Exit.then])
                  refine bodyPost_ret (results_A3 rfl rfl ha4) rfl ?_
                  refine ⟨?_, (HI2.out.2.2.1.trans (HX.out.2.below (by omega))).trans (hb4.below (Nat.le_refl _))⟩
                  have e9 : retP l R = .tuple #[.agg (arr (not1 f)), .int .i64 ((i : Int) + 1), .int .i64 0] := by
                    rw [HRR.out]
                    show retP l (some (not1 f, l.drop (i + 1))) = _
                    rw [retP_some, List.length_drop, HM.out, show ((m : Int) - ((m - (i + 1) : Nat) : Int)) = (i : Int) + 1 by omega]
                  rw [e9]
                  rfl
            · have t93 : ((x : Int) != 93) = true := by simpa using (by omega : ¬ (x : Int) = 93)
              have hcond : Goes false (l.drop i) := fun h => h93 (by
                have := h.2
                rw [hdi] at this
                simp only [List.head?_cons, Option.some.injEq] at this
                rw [← hx, this]; rfl)
              clear hx hdi
              have HC := Lib.hid hcond
              clear hcond
              go_wp2_with fail
              go_at_call 21
              refine (CP.out wr).mono ?_
              rintro e w3 ⟨hb3, hh⟩
              rcases hh with ⟨hr, z, n, rfl⟩ | ⟨g, r, hr, rfl⟩
              · have hTn : T = none := by
                  rw [← HI.out.1]
                  exact partsN_none _ _ _ _ HC.out (by rw [HP.out]; exact hr)
                have hres : R = none := by rw [HRES.out, hTn]; rfl
                subst hres
                have hz3 := hb3.size
                have K0 := HI2.out.1.keep hb3 (by have := HI2.out.2.2.2; omega)
                have K2 := HI2.out.2.1.keep hb3 (by have := HI2.out.2.2.2; omega)
                have HB3 := Lib.hid (HI2.out.2.2.1.trans (hb3.mono (by have := HI2.out.2.2.2; omega)))
                have HZ3 := Lib.hid (show w.heap.size + 3 ≤ w3.heap.size by have := HI2.out.2.2.2; omega)
                clear hb3 hr hTn
                go_wp2_with (first | (refine wpList_allocA rfl rfl ?_; intro w4 hs4 ha4 hb4; have M0 := K0.keep hb4 (by have := HZ3.out; omega); have M2 := K2.keep hb4 (by have := HZ3.out; omega)) | (refine wpList_storeA rfl _ _ rfl _ _ rfl rfl _ ha4 ?_; intro w5 ha5 hb5; have N0 := M0.but hb5 (by have := HZ3.out; omega); have N2 := M2.but hb5 (by have := HZ3.out; omega)) | (refine wpList_loadA rfl _ rfl _ rfl _ N2 ?_) | (refine wpList_storeA rfl _ _ rfl _ _ rfl rfl _ N0 ?_; intro w6 ha6 hb6))
                (try simp only [Exit.inBlock, Exit.then])
                refine bodyPost_ret (results_A3 rfl rfl ha6) rfl ?_
                exact ⟨rfl, ((HB3.out.trans (hb4.mono (by have := HZ3.out; omega))).trans (hb5.below (by have := HZ3.out; omega))).trans (hb6.below (Nat.le_refl _))⟩
              · have hPg : partN (l.drop i) = some (g, r) := by rw [HP.out]; exact hr
                have hnx := next_drop l i _ hPg
                have hlen := partN_len _ _ hPg
                simp only at hnx hlen
                rw [List.length_drop, HM.out] at hlen
                obtain ⟨nx, hnx2⟩ : ∃ nx, m - r.length = nx := ⟨_, rfl⟩
                rw [HM.out, hnx2] at hnx
                have hnxm : nx ≤ m := by omega
                have hnxi : i < nx := by omega
                have enx : (l.length : Int) - r.length = (nx : Int) := by rw [HM.out]; omega
                rw [enx]
                have hTs : partsN ((l.drop nx).length + 1) false (or2 f g) (l.drop nx) = T := by
                  rw [← HI.out.1, partsN_step _ _ _ _ _ HC.out hPg]
                  show partsN _ false (or2 f g) (l.drop nx) = partsN _ false (or2 f g) r
                  rw [hnx]
                  exact partsN_fuel _ _ _ _ _ (by omega) (by rw [List.length_drop, List.length_drop, HM.out]; omega)
                have HTS := Lib.hid hTs
                have hz3 := hb3.size
                have HZ3 := Lib.hid (show w.heap.size + 3 ≤ w3.heap.size by have := HI2.out.2.2.2; omega)
                have K0 := HI2.out.1.keep hb3 (by have := HI2.out.2.2.2; omega)
                have K1 := HI1.out.keep hb3 (by have := HI2.out.2.2.2; omega)
                have K2 := HI2.out.2.1.keep hb3 (by have := HI2.out.2.2.2; omega)
                have HB3 := Lib.hid (HI2.out.2.2.1.trans (hb3.mono (by have := HI2.out.2.2.2; omega)))
                clear hb3 hr hTs hPg hnx hlen enx hnx2
                go_wp2_with (first | (refine wpList_allocA rfl rfl ?_; intro w4 hs4 ha4 hb4) | (refine wpList_storeA rfl _ _ rfl _ _ rfl rfl _ ha4 ?_; intro w5 ha5 hb5))
                have N0 := Lib.hid ((K0.keep hb4 (by have := HZ3.out; omega)).but hb5 (by have := HZ3.out; omega))
                have N1 := Lib.hid ((K1.keep hb4 (by have := HZ3.out; omega)).but hb5 (by have := HZ3.out; omega))
                have N2 := Lib.hid ((K2.keep hb4 (by have := HZ3.out; omega)).but hb5 (by have := HZ3.out; omega))
                have NP := Lib.hid ha5
                have NB := Lib.hid ((HB3.out.trans (hb4.mono (by have := HZ3.out; omega))).trans (hb5.below (by have := HZ3.out; omega)))
                have NZ := Lib.hid (show w.heap.size + 3 ≤ w5.heap.size by have := HZ3.out; rw [hb5.size, hs4]; omega)
                clear K0 K1 K2 ha4 hb4 ha5 hb5 hs4
                go_loopg [15] 256 (fun g'' s15 wx => ∃ c : Nat, s15 = .int .i64 c ∧ c ≤ 256 ∧ 256 - c ≤ g'' ∧ Hid (Arr wx (w.heap.size + 1) (mix c (or2 f g) f) ∧ But (w.heap.size + 1) w5 wx))
                case atStart => exact ⟨0, rfl, Nat.zero_le _, by omega, Lib.hid ⟨by rw [mix_zero]; exact N1.out, But.refl⟩⟩
                case round =>
                  obtain ⟨c, rfl, hc, hgc, HX⟩ := hrel
                  by_cases hlt : c < 256
                  · have hc1 := HX.out.1.cell hlt
                    rw [mix_at] at hc1
                    have hcp := (NP.out.but HX.out.2 (by have := HZ3.out; omega)).cell hlt
                    have hst := setCell_put HX.out.1 c (or2 f g c) hlt
                    rw [mix_upd] at hst
                    have hfz := HX.out.1.frozen c
                    have HPP := Lib.hid (And.intro (putA_arr (g := mix (c + 1) (or2 f g) f) HX.out.1.lt) (putA_but (w := wr) (b := w.heap.size + 1) (g := mix (c + 1) (or2 f g) f)))
                    obtain ⟨wy, hwy⟩ : ∃ wy, putA wr (w.heap.size + 1) (mix (c + 1) (or2 f g) f) = wy := ⟨_, rfl⟩
                    rw [hwy] at hst HPP
                    cases hfc : f c with
                    | true =>
                      have e : or2 f g c = true := by simp [or2, hfc]
                      rw [e] at hst
                      rw [hfc] at hc1
                      clear e hfc hwy
                      go_wp2
                      go_roundg (256 - (c + 1))
                      case measure => omega
                      case rel => exact ⟨c + 1, by go_num, by omega, by omega, Lib.hid ⟨HPP.out.1, HX.out.2.trans HPP.out.2⟩⟩
                    | false =>
                      have e : or2 f g c = g c := by simp [or2, hfc]
                      rw [e] at hst
                      rw [hfc] at hc1
                      clear e hfc hwy
                      go_wp2
                      go_roundg (256 - (c + 1))
                      case measure => omega
                      case rel => exact ⟨c + 1, by go_num, by omega, by omega, Lib.hid ⟨HPP.out.1, HX.out.2.trans HPP.out.2⟩⟩
                  · obtain rfl : c = 256 := by omega
                    have A1 : Hid (Arr wr (w.heap.size + 1) (or2 f g)) := Lib.hid (by have := HX.out.1; unfold Arr at this ⊢; rw [mix_end] at this; exact this)
                    go_wp2
                    go_roundg (m - nx + 2)
                    case measure => omega
                    case rel => exact ⟨nx, false, or2 f g, rfl, rfl, by omega, hnxm, Lib.hid ⟨HTS.out, A1.out, N0.out.but HX.out.2 (by omega), N2.out.but HX.out.2 (by omega), NB.out.trans (HX.out.2.below (by omega)), by rw [HX.out.2.size]; exact NZ.out⟩⟩
          · have hcond : Goes false (l.drop i) := fun h => by
              have := h.2
              rw [List.drop_eq_nil_of_le (by rw [HM.out]; omega)] at this
              cases this
            have HC := Lib.hid hcond
            clear hcond
            go_wp2_with fail
            go_at_call 21
            refine (CP.out wr).mono ?_
            rintro e w3 ⟨hb3, hh⟩
            rcases hh with ⟨hr, z, n, rfl⟩ | ⟨g, r, hr, rfl⟩
            · have hTn : T = none := by
                rw [← HI.out.1]
                exact partsN_none _ _ _ _ HC.out (by rw [HP.out]; exact hr)
              have hres : R = none := by rw [HRES.out, hTn]; rfl
              subst hres
              have hz3 := hb3.size
              have K0 := HI2.out.1.keep hb3 (by have := HI2.out.2.2.2; omega)
              have K2 := HI2.out.2.1.keep hb3 (by have := HI2.out.2.2.2; omega)
              have HB3 := Lib.hid (HI2.out.2.2.1.trans (hb3.mono (by have := HI2.out.2.2.2; omega)))
              have HZ3 := Lib.hid (show w.heap.size + 3 ≤ w3.heap.size by have := HI2.out.2.2.2; omega)
              clear hb3 hr hTn
              go_wp2_with (first | (refine wpList_allocA rfl rfl ?_; intro w4 hs4 ha4 hb4; have M0 := K0.keep hb4 (by have := HZ3.out; omega); have M2 := K2.keep hb4 (by have := HZ3.out; omega)) | (refine wpList_storeA rfl _ _ rfl _ _ rfl rfl _ ha4 ?_; intro w5 ha5 hb5; have N0 := M0.but hb5 (by have := HZ3.out; omega); have N2 := M2.but hb5 (by have := HZ3.out; omega)) | (refine wpList_loadA rfl _ rfl _ rfl _ N2 ?_) | (refine wpList_storeA rfl _ _ rfl _ _ rfl rfl _ N0 ?_; intro w6 ha6 hb6))
              (try simp only [Exit.inBlock, Exit.then])
              refine bodyPost_ret (results_A3 rfl rfl ha6) rfl ?_
              exact ⟨rfl, ((HB3.out.trans (hb4.mono (by have := HZ3.out; omega))).trans (hb5.below (by have := HZ3.out; omega))).trans (hb6.below (Nat.le_refl _))⟩
            · have hPg : partN (l.drop i) = some (g, r) := by rw [HP.out]; exact hr
              have hnx := next_drop l i _ hPg
              have hlen := partN_len _ _ hPg
              simp only at hnx hlen
              rw [List.length_drop, HM.out] at hlen
              obtain ⟨nx, hnx2⟩ : ∃ nx, m - r.length = nx := ⟨_, rfl⟩
              rw [HM.out, hnx2] at hnx
              have hnxm : nx ≤ m := by omega
              have hnxi : i < nx := by omega
              omega
    · have hres : R = allN noB (l.drop (k + 1)) := by
        rw [← HR.out]
        unfold parseL
        rw [if_pos hhead, hdd, if_neg]
        intro e
        apply hn
        rcases Nat.lt_or_ge (k + 1) m with h | h
        · refine ⟨h, ?_⟩
          rw [drop_one' l (k + 1) (by rw [HM.out]; omega)] at e
          simp only [List.head?_cons, Option.some.injEq] at e
          rw [e]
          rfl
        · rw [List.drop_eq_nil_of_le (by rw [HM.out]; exact h)] at e
          cases e
      obtain ⟨T, hT⟩ : ∃ T, allN noB (l.drop (k + 1)) = T := ⟨_, rfl⟩
      rw [hT] at hres
      have HT := Lib.hid hT
      have HRES := Lib.hid hres
      clear hres hT hhead hdd hdd2 hd0 e91 ha HR
      by_cases h1 : k + 1 < m
      · have j1 := index_at l (k + 1) ((k : Int) + 1) (by omega) (by rw [HM.out]; omega)
        obtain ⟨b, hb⟩ : ∃ b, (l.getD (k + 1) 0).toNat = b := ⟨_, rfl⟩
        have b6 : b < 256 := by rw [← hb]; exact (l.getD (k + 1) 0).toNat_lt
        rw [hb] at j1
        have b94 : ((b : Int) == 94) = false := by simpa using (fun e => hn ⟨h1, by omega⟩ : ¬ (b : Int) = 94)
        clear hn hb
        go_enter Try.func11, Try.ntmps11
        go_wp2_with (refine wpList_allocA rfl rfl ?_; (first | (have := hs1; intro w2 hs2 ha2 hb2; clear this) | (have := hs0; intro w1 hs1 ha1 hb1; clear this) | (intro w0 hs0 ha0 hb0)))
        have HB := Lib.hid ((hb0.trans (hb1.mono (by omega))).trans (hb2.mono (by omega)))
        have H0 := Lib.hid ((ha0.keep hb1 (by omega)).keep hb2 (by omega))
        have H1 : Hid (Arr w2 (w.heap.size + 1) noB) := Lib.hid (by rw [← hs0]; exact ha1.keep hb2 (by omega))
        have H2 : Hid (Arr w2 (w.heap.size + 2) noB) := Lib.hid (by have : w1.heap.size = w.heap.size + 2 := by omega
                                                                    rw [← this]; exact ha2)
        have HS := Lib.hid (show w2.heap.size = w.heap.size + 3 by omega)
        clear ha0 hb0 ha1 hb1 hs1 ha2 hb2 hs2
        go_loopg [9, 11] (m + 2) (fun g' s9 s11 wr => ∃ (i : Nat) (first : Bool) (f : Nat → Bool), s9 = .int .i64 i ∧ s11 = .bool first ∧ m - i + 1 < g' ∧ i ≤ m ∧ Hid (partsN ((l.drop i).length + 1) first f (l.drop i) = T ∧ Arr wr (w.heap.size + 1) f ∧ Arr wr w.heap.size noB ∧ Arr wr (w.heap.size + 2) noB ∧ Below w.heap.size w wr ∧ w.heap.size + 3 ≤ wr.heap.size))
        case atStart => exact ⟨k + 1, true, noB, by go_num, rfl, by omega, by omega, Lib.hid ⟨HT.out, H1.out, H0.out, H2.out, HB.out, Nat.le_of_eq HS.out.symm⟩⟩
        case round =>
          obtain ⟨i, first, f, rfl, rfl, hg, him, HI⟩ := hrel
          have CP := Lib.hid (fun W => refPart_b l i W HLL.out (by rw [HM.out]; exact him))
          obtain ⟨P, hP⟩ : ∃ P, partN (l.drop i) = P := ⟨_, rfl⟩
          rw [hP] at CP
          have HP := Lib.hid hP
          have HI2 := Lib.hid HI.out.2.2
          have HI1 := Lib.hid HI.out.2.1
          clear hP
          cases first with
          | true =>
            have hcond : Goes true (l.drop i) := fun h => by cases h.1
            have HC := Lib.hid hcond
            clear hcond
            go_wp2_with fail
            go_at_call 21
            refine (CP.out wr).mono ?_
            rintro e w3 ⟨hb3, hh⟩
            rcases hh with ⟨hr, z, n, rfl⟩ | ⟨g, r, hr, rfl⟩
            · have hTn : T = none := by
                rw [← HI.out.1]
                exact partsN_none _ _ _ _ HC.out (by rw [HP.out]; exact hr)
              have hres : R = none := by rw [HRES.out, hTn]
              subst hres
              have hz3 := hb3.size
              have K0 := HI2.out.1.keep hb3 (by have := HI2.out.2.2.2; omega)
              have K2 := HI2.out.2.1.keep hb3 (by have := HI2.out.2.2.2; omega)
              have HB3 := Lib.hid (HI2.out.2.2.1.trans (hb3.mono (by have := HI2.out.2.2.2; omega)))
              have HZ3 := Lib.hid (show w.heap.size + 3 ≤ w3.heap.size by have := HI2.out.2.2.2; omega)
              clear hb3 hr hTn
              go_wp2_with (first | (refine wpList_allocA rfl rfl ?_; intro w4 hs4 ha4 hb4; have M0 := K0.keep hb4 (by have := HZ3.out; omega); have M2 := K2.keep hb4 (by have := HZ3.out; omega)) | (refine wpList_storeA rfl _ _ rfl _ _ rfl rfl _ ha4 ?_; intro w5 ha5 hb5; have N0 := M0.but hb5 (by have := HZ3.out; omega); have N2 := M2.but hb5 (by have := HZ3.out; omega)) | (refine wpList_loadA rfl _ rfl _ rfl _ N2 ?_) | (refine wpList_storeA rfl _ _ rfl _ _ rfl rfl _ N0 ?_; intro w6 ha6 hb6))
              (try simp only [Exit.inBlock, Exit.then])
              refine bodyPost_ret (results_A3 rfl rfl ha6) rfl ?_
              exact ⟨rfl, ((HB3.out.trans (hb4.mono (by have := HZ3.out; omega))).trans (hb5.below (by have := HZ3.out; omega))).trans (hb6.below (Nat.le_refl _))⟩
            · have hPg : partN (l.drop i) = some (g, r) := by rw [HP.out]; exact hr
              have hnx := next_drop l i _ hPg
              have hlen := partN_len _ _ hPg
              simp only at hnx hlen
              rw [List.length_drop, HM.out] at hlen
              obtain ⟨nx, hnx2⟩ : ∃ nx, m - r.length = nx := ⟨_, rfl⟩
              rw [HM.out, hnx2] at hnx
              have hnxm : nx ≤ m := by omega
              have hnxi : i < nx := by omega
              have enx : (l.length : Int) - r.length = (nx : Int) := by rw [HM.out]; omega
              rw [enx]
              have hTs : partsN ((l.drop nx).length + 1) false (or2 f g) (l.drop nx) = T := by
                rw [← HI.out.1, partsN_step _ _ _ _ _ HC.out hPg]
                show partsN _ false (or2 f g) (l.drop nx) = partsN _ false (or2 f g) r
                rw [hnx]
                exact partsN_fuel _ _ _ _ _ (by omega) (by rw [List.length_drop, List.length_drop, HM.out]; omega)
              have HTS := Lib.hid hTs
              have hz3 := hb3.size
              have HZ3 := Lib.hid (show w.heap.size + 3 ≤ w3.heap.size by have := HI2.out.2.2.2; omega)
              have K0 := HI2.out.1.keep hb3 (by have := HI2.out.2.2.2; omega)
              have K1 := HI1.out.keep hb3 (by have := HI2.out.2.2.2; omega)
              have K2 := HI2.out.2.1.keep hb3 (by have := HI2.out.2.2.2; omega)
              have HB3 := Lib.hid (HI2.out.2.2.1.trans (hb3.mono (by have := HI2.out.2.2.2; omega)))
              clear hb3 hr hTs hPg hnx hlen enx hnx2
              go_wp2_with (first | (refine wpList_allocA rfl rfl ?_; intro w4 hs4 ha4 hb4) | (refine wpList_storeA rfl _ _ rfl _ _ rfl rfl _ ha4 ?_; intro w5 ha5 hb5))
              have N0 := Lib.hid ((K0.keep hb4 (by have := HZ3.out; omega)).but hb5 (by have := HZ3.out; omega))
              have N1 := Lib.hid ((K1.keep hb4 (by have := HZ3.out; omega)).but hb5 (by have := HZ3.out; omega))
              have N2 := Lib.hid ((K2.keep hb4 (by have := HZ3.out; omega)).but hb5 (by have := HZ3.out; omega))
              have NP := Lib.hid ha5
              have NB := Lib.hid ((HB3.out.trans (hb4.mono (by have := HZ3.out; omega))).trans (hb5.below (by have := HZ3.out; omega)))
              have NZ := Lib.hid (show w.heap.size + 3 ≤ w5.heap.size by have := HZ3.out; rw [hb5.size, hs4]; omega)
              clear K0 K1 K2 ha4 hb4 ha5 hb5 hs4
              go_loopg [15] 256 (fun g'' s15 wx => ∃ c : Nat, s15 = .int .i64 c ∧ c ≤ 256 ∧ 256 - c ≤ g'' ∧ Hid (Arr wx (w.heap.size + 1) (mix c (or2 f g) f) ∧ But (w.heap.size + 1) w5 wx))
              case atStart => exact ⟨0, rfl, Nat.zero_le _, by omega, Lib.hid ⟨by rw [mix_zero]; exact N1.out, But.refl⟩⟩
              case round =>
                obtain ⟨c, rfl, hc, hgc, HX⟩ := hrel
                by_cases hlt : c < 256
                · have hc1 := HX.out.1.cell hlt
                  rw [mix_at] at hc1
                  have hcp := (NP.out.but HX.out.2 (by have := HZ3.out; omega)).cell hlt
                  have hst := setCell_put HX.out.1 c (or2 f g c) hlt
                  rw [mix_upd] at hst
                  have hfz := HX.out.1.frozen c
                  have HPP := Lib.hid (And.intro (putA_arr (g := mix (c + 1) (or2 f g) f) HX.out.1.lt) (putA_but (w := wr) (b := w.heap.size + 1) (g := mix (c + 1) (or2 f g) f)))
                  obtain ⟨wy, hwy⟩ : ∃ wy, putA wr (w.heap.size + 1) (mix (c + 1) (or2 f g) f) = wy := ⟨_, rfl⟩
                  rw [hwy] at hst HPP
                  cases hfc : f c with
                  | true =>
                    have e : or2 f g c = true := by simp [or2, hfc]
                    rw [e] at hst
                    rw [hfc] at hc1
                    clear e hfc hwy
                    go_wp2
                    go_roundg (256 - (c + 1))
                    case measure => omega
                    case rel => exact ⟨c + 1, by go_num, by omega, by omega, Lib.hid ⟨HPP.out.1, HX.out.2.trans HPP.out.2⟩⟩
                  | false =>
                    have e : or2 f g c = g c := by simp [or2, hfc]
                    rw [e] at hst
                    rw [hfc] at hc1
                    clear e hfc hwy
                    go_wp2
                    go_roundg (256 - (c + 1))
                    case measure => omega
                    case rel => exact ⟨c + 1, by go_num, by omega, by omega, Lib.hid ⟨HPP.out.1, HX.out.2.trans HPP.out.2⟩⟩
                · obtain rfl : c = 256 := by omega
                  have A1 : Hid (Arr wr (w.heap.size + 1) (or2 f g)) := Lib.hid (by have := HX.out.1; unfold Arr at this ⊢; rw [mix_end] at this; exact this)
                  go_wp2
                  go_roundg (m - nx + 2)
                  case measure => omega
                  case rel => exact ⟨nx, false, or2 f g, rfl, rfl, by omega, hnxm, Lib.hid ⟨HTS.out, A1.out, N0.out.but HX.out.2 (by omega), N2.out.but HX.out.2 (by omega), NB.out.trans (HX.out.2.below (by omega)), by rw [HX.out.2.size]; exact NZ.out⟩⟩
          | false =>
            by_cases hi : i < m
            · have ji := index_at l i i rfl (by rw [HM.out]; exact hi)
              obtain ⟨x, hx⟩ : ∃ x, (l.getD i 0).toNat = x := ⟨_, rfl⟩
              have x6 : x < 256 := by rw [← hx]; exact (l.getD i 0).toNat_lt
              rw [hx] at ji
              have hdi := drop_one' l i (by rw [HM.out]; exact hi)
              by_cases h93 : x = 93
              · subst h93
                have e93 : l.getD i 0 = 93 := UInt8.toNat_inj.1 hx
                have hTe : T = some (f, l.drop (i + 1)) := by
                  rw [← HI.out.1, partsN_end _ f (l.drop i) (by rw [hdi, e93]; rfl), List.drop_drop]
                rw [hTe] at HRES
                have HRR := Lib.hid HRES.out
                clear hx hdi e93 hTe HRES
                have mi : decide (m ≤ i) = false := decide_eq_false (by omega)
                have mi2 : ¬ m ≤ i := by omega
                go_wp2
                go_loopg [16] 0 (fun g'' s16 wx => s16 = .int .i64 0 ∧ wx = wr)
                case atStart => exact ⟨rfl, rfl⟩
                case round =>
                  obtain ⟨rfl, hwx⟩ := hrel
                  have hwx := hwx.symm
                  subst hwx
                  have hA1 := HI1.out
                  have hA0 := HI2.out.1
                  go_wp2_with (first | (refine wpList_loadA rfl _ rfl _ rfl _ hA1 ?_) | (refine wpList_storeA rfl _ _ rfl _ _ rfl rfl _ hA0 ?_; intro w4 ha4 hb4))
                  (try simp only [Exit.inBlock, Exit.then])
                  refine bodyPost_ret (results_A3 rfl rfl ha4) rfl ?_
                  refine ⟨?_, HI2.out.2.2.1.trans (hb4.below (Nat.le_refl _))⟩
                  have e9 : retP l R = .tuple #[.agg (arr f), .int .i64 ((i : Int) + 1), .int .i64 0] := by
                    rw [HRR.out]
                    rw [retP_some, List.length_drop, HM.out, show ((m : Int) - ((m - (i + 1) : Nat) : Int)) = (i : Int) + 1 by omega]
                  rw [e9]
                  rfl
              · have t93 : ((x : Int) != 93) = true := by simpa using (by omega : ¬ (x : Int) = 93)
                have hcond : Goes false (l.drop i) := fun h => h93 (by
                  have := h.2
                  rw [hdi] at this
                  simp only [List.head?_cons, Option.some.injEq] at this
                  rw [← hx, this]; rfl)
                clear hx hdi
                have HC := Lib.hid hcond
                clear hcond
                go_wp2_with fail
                go_at_call 21
                refine (CP.out wr).mono ?_
                rintro e w3 ⟨hb3, hh⟩
                rcases hh with ⟨hr, z, n, rfl⟩ | ⟨g, r, hr, rfl⟩
                · have hTn : T = none := by
                    rw [← HI.out.1]
                    exact partsN_none _ _ _ _ HC.out (by rw [HP.out]; exact hr)
                  have hres : R = none := by rw [HRES.out, hTn]
                  subst hres
                  have hz3 := hb3.size
                  have K0 := HI2.out.1.keep hb3 (by have := HI2.out.2.2.2; omega)
                  have K2 := HI2.out.2.1.keep hb3 (by have := HI2.out.2.2.2; omega)
                  have HB3 := Lib.hid (HI2.out.2.2.1.trans (hb3.mono (by have := HI2.out.2.2.2; omega)))
                  have HZ3 := Lib.hid (show w.heap.size + 3 ≤ w3.heap.size by have := HI2.out.2.2.2; omega)
                  clear hb3 hr hTn
                  go_wp2_with (first | (refine wpList_allocA rfl rfl ?_; intro w4 hs4 ha4 hb4; have M0 := K0.keep hb4 (by have := HZ3.out; omega); have M2 := K2.keep hb4 (by have := HZ3.out; omega)) | (refine wpList_storeA rfl _ _ rfl _ _ rfl rfl _ ha4 ?_; intro w5 ha5 hb5; have N0 := M0.but hb5 (by have := HZ3.out; omega); have N2 := M2.but hb5 (by have := HZ3.out; omega)) | (refine wpList_loadA rfl _ rfl _ rfl _ N2 ?_) | (refine wpList_storeA rfl _ _ rfl _ _ rfl rfl _ N0 ?_; intro w6 ha6 hb6))
                  (try simp only [Exit.inBlock, Exit.then])
                  refine bodyPost_ret (results_A3 rfl rfl ha6) rfl ?_
                  exact ⟨rfl, ((HB3.out.trans (hb4.mono (by have := HZ3.out; omega))).trans (hb5.below (by have := HZ3.out; omega))).trans (hb6.below (Nat.le_refl _))⟩
                · have hPg : partN (l.drop i) = some (g, r) := by rw [HP.out]; exact hr
                  have hnx := next_drop l i _ hPg
                  have hlen := partN_len _ _ hPg
                  simp only at hnx hlen
                  rw [List.length_drop, HM.out] at hlen
                  obtain ⟨nx, hnx2⟩ : ∃ nx, m - r.length = nx := ⟨_, rfl⟩
                  rw [HM.out, hnx2] at hnx
                  have hnxm : nx ≤ m := by omega
                  have hnxi : i < nx := by omega
                  have enx : (l.length : Int) - r.length = (nx : Int) := by rw [HM.out]; omega
                  rw [enx]
                  have hTs : partsN ((l.drop nx).length + 1) false (or2 f g) (l.drop nx) = T := by
                    rw [← HI.out.1, partsN_step _ _ _ _ _ HC.out hPg]
                    show partsN _ false (or2 f g) (l.drop nx) = partsN _ false (or2 f g) r
                    rw [hnx]
                    exact partsN_fuel _ _ _ _ _ (by omega) (by rw [List.length_drop, List.length_drop, HM.out]; omega)
                  have HTS := Lib.hid hTs
                  have hz3 := hb3.size
                  have HZ3 := Lib.hid (show w.heap.size + 3 ≤ w3.heap.size by have := HI2.out.2.2.2; omega)
                  have K0 := HI2.out.1.keep hb3 (by have := HI2.out.2.2.2; omega)
                  have K1 := HI1.out.keep hb3 (by have := HI2.out.2.2.2; omega)
                  have K2 := HI2.out.2.1.keep hb3 (by have := HI2.out.2.2.2; omega)
                  have HB3 := Lib.hid (HI2.out.2.2.1.trans (hb3.mono (by have := HI2.out.2.2.2; omega)))
                  clear hb3 hr hTs hPg hnx hlen enx hnx2
                  go_wp2_with (first | (refine wpList_allocA rfl rfl ?_; intro w4 hs4 ha4 hb4) | (refine wpList_storeA rfl _ _ rfl _ _ rfl rfl _ ha4 ?_; intro w5 ha5 hb5))
                  have N0 := Lib.hid ((K0.keep hb4 (by have := HZ3.out; omega)).but hb5 (by have := HZ3.out; omega))
                  have N1 := Lib.hid ((K1.keep hb4 (by have := HZ3.out; omega)).but hb5 (by have := HZ3.out; omega))
                  have N2 := Lib.hid ((K2.keep hb4 (by have := HZ3.out; omega)).but hb5 (by have := HZ3.out; omega))
                  have NP := Lib.hid ha5
                  have NB := Lib.hid ((HB3.out.trans (hb4.mono (by have := HZ3.out; omega))).trans (hb5.below (by have := HZ3.out; omega)))
                  have NZ := Lib.hid (show w.heap.size + 3 ≤ w5.heap.size by have := HZ3.out; rw [hb5.size, hs4]; omega)
                  clear K0 K1 K2 ha4 hb4 ha5 hb5 hs4
                  go_loopg [15] 256 (fun g'' s15 wx => ∃ c : Nat, s15 = .int .i64 c ∧ c ≤ 256 ∧ 256 - c ≤ g'' ∧ Hid (Arr wx (w.heap.size + 1) (mix c (or2 f g) f) ∧ But (w.heap.size + 1) w5 wx))
                  case atStart => exact ⟨0, rfl, Nat.zero_le _, by omega, Lib.hid ⟨by rw [mix_zero]; exact N1.out, But.refl⟩⟩
                  case round =>
                    obtain ⟨c, rfl, hc, hgc, HX⟩ := hrel
                    by_cases hlt : c < 256
                    · have hc1 := HX.out.1.cell hlt
                      rw [mix_at] at hc1
                      have hcp := (NP.out.but HX.out.2 (by have := HZ3.out; omega)).cell hlt
                      have hst := setCell_put HX.out.1 c (or2 f g c) hlt
                      rw [mix_upd] at hst
                      have hfz := HX.out.1.frozen c
                      have HPP := Lib.hid (And.intro (putA_arr (g := mix (c + 1) (or2 f g) f) HX.out.1.lt) (putA_but (w := wr) (b := w.heap.size + 1) (g := mix (c + 1) (or2 f g) f)))
                      obtain ⟨wy, hwy⟩ : ∃ wy, putA wr (w.heap.size + 1) (mix (c + 1) (or2 f g) f) = wy := ⟨_, rfl⟩
                      rw [hwy] at hst HPP
                      cases hfc : f c with
                      | true =>
                        have e : or2 f g c = true := by simp [or2, hfc]
                        rw [e] at hst
                        rw [hfc] at hc1
                        clear e hfc hwy
                        go_wp2
                        go_roundg (256 - (c + 1))
                        case measure => omega
                        case rel => exact ⟨c + 1, by go_num, by omega, by omega, Lib.hid ⟨HPP.out.1, HX.out.2.trans HPP.out.2⟩⟩
                      | false =>
                        have e : or2 f g c = g c := by simp [or2, hfc]
                        rw [e] at hst
                        rw [hfc] at hc1
                        clear e hfc hwy
                        go_wp2
                        go_roundg (256 - (c + 1))
                        case measure => omega
                        case rel => exact ⟨c + 1, by go_num, by omega, by omega, Lib.hid ⟨HPP.out.1, HX.out.2.trans HPP.out.2⟩⟩
                    · obtain rfl : c = 256 := by omega
                      have A1 : Hid (Arr wr (w.heap.size + 1) (or2 f g)) := Lib.hid (by have := HX.out.1; unfold Arr at this ⊢; rw [mix_end] at this; exact this)
                      go_wp2
                      go_roundg (m - nx + 2)
                      case measure => omega
                      case rel => exact ⟨nx, false, or2 f g, rfl, rfl, by omega, hnxm, Lib.hid ⟨HTS.out, A1.out, N0.out.but HX.out.2 (by omega), N2.out.but HX.out.2 (by omega), NB.out.trans (HX.out.2.below (by omega)), by rw [HX.out.2.size]; exact NZ.out⟩⟩
            · have hcond : Goes false (l.drop i) := fun h => by
                have := h.2
                rw [List.drop_eq_nil_of_le (by rw [HM.out]; omega)] at this
                cases this
              have HC := Lib.hid hcond
              clear hcond
              go_wp2_with fail
              go_at_call 21
              refine (CP.out wr).mono ?_
              rintro e w3 ⟨hb3, hh⟩
              rcases hh with ⟨hr, z, n, rfl⟩ | ⟨g, r, hr, rfl⟩
              · have hTn : T = none := by
                  rw [← HI.out.1]
                  exact partsN_none _ _ _ _ HC.out (by rw [HP.out]; exact hr)
                have hres : R = none := by rw [HRES.out, hTn]
                subst hres
                have hz3 := hb3.size
                have K0 := HI2.out.1.keep hb3 (by have := HI2.out.2.2.2; omega)
                have K2 := HI2.out.2.1.keep hb3 (by have := HI2.out.2.2.2; omega)
                have HB3 := Lib.hid (HI2.out.2.2.1.trans (hb3.mono (by have := HI2.out.2.2.2; omega)))
                have HZ3 := Lib.hid (show w.heap.size + 3 ≤ w3.heap.size by have := HI2.out.2.2.2; omega)
                clear hb3 hr hTn
                go_wp2_with (first | (refine wpList_allocA rfl rfl ?_; intro w4 hs4 ha4 hb4; have M0 := K0.keep hb4 (by have := HZ3.out; omega); have M2 := K2.keep hb4 (by have := HZ3.out; omega)) | (refine wpList_storeA rfl _ _ rfl _ _ rfl rfl _ ha4 ?_; intro w5 ha5 hb5; have N0 := M0.but hb5 (by have := HZ3.out; omega); have N2 := M2.but hb5 (by have := HZ3.out; omega)) | (refine wpList_loadA rfl _ rfl _ rfl _ N2 ?_) | (refine wpList_storeA rfl _ _ rfl _ _ rfl rfl _ N0 ?_; intro w6 ha6 hb6))
                (try simp only [Exit.inBlock, Exit.then])
                refine bodyPost_ret (results_A3 rfl rfl ha6) rfl ?_
                exact ⟨rfl, ((HB3.out.trans (hb4.mono (by have := HZ3.out; omega))).trans (hb5.below (by have := HZ3.out; omega))).trans (hb6.below (Nat.le_refl _))⟩
              · have hPg : partN (l.drop i) = some (g, r) := by rw [HP.out]; exact hr
                have hnx := next_drop l i _ hPg
                have hlen := partN_len _ _ hPg
                simp only at hnx hlen
                rw [List.length_drop, HM.out] at hlen
                obtain ⟨nx, hnx2⟩ : ∃ nx, m - r.length = nx := ⟨_, rfl⟩
                rw [HM.out, hnx2] at hnx
                have hnxm : nx ≤ m := by omega
                have hnxi : i < nx := by omega
                omega
      · clear hn
        go_enter Try.func11, Try.ntmps11
        go_wp2_with (refine wpList_allocA rfl rfl ?_; (first | (have := hs1; intro w2 hs2 ha2 hb2; clear this) | (have := hs0; intro w1 hs1 ha1 hb1; clear this) | (intro w0 hs0 ha0 hb0)))
        have HB := Lib.hid ((hb0.trans (hb1.mono (by omega))).trans (hb2.mono (by omega)))
        have H0 := Lib.hid ((ha0.keep hb1 (by omega)).keep hb2 (by omega))
        have H1 : Hid (Arr w2 (w.heap.size + 1) noB) := Lib.hid (by rw [← hs0]; exact ha1.keep hb2 (by omega))
        have H2 : Hid (Arr w2 (w.heap.size + 2) noB) := Lib.hid (by have : w1.heap.size = w.heap.size + 2 := by omega
                                                                    rw [← this]; exact ha2)
        have HS := Lib.hid (show w2.heap.size = w.heap.size + 3 by omega)
        clear ha0 hb0 ha1 hb1 hs1 ha2 hb2 hs2
        go_loopg [9, 11] (m + 2) (fun g' s9 s11 wr => ∃ (i : Nat) (first : Bool) (f : Nat → Bool), s9 = .int .i64 i ∧ s11 = .bool first ∧ m - i + 1 < g' ∧ i ≤ m ∧ Hid (partsN ((l.drop i).length + 1) first f (l.drop i) = T ∧ Arr wr (w.heap.size + 1) f ∧ Arr wr w.heap.size noB ∧ Arr wr (w.heap.size + 2) noB ∧ Below w.heap.size w wr ∧ w.heap.size + 3 ≤ wr.heap.size))
        case atStart => exact ⟨k + 1, true, noB, by go_num, rfl, by omega, by omega, Lib.hid ⟨HT.out, H1.out, H0.out, H2.out, HB.out, Nat.le_of_eq HS.out.symm⟩⟩
        case round =>
          obtain ⟨i, first, f, rfl, rfl, hg, him, HI⟩ := hrel
          have CP := Lib.hid (fun W => refPart_b l i W HLL.out (by rw [HM.out]; exact him))
          obtain ⟨P, hP⟩ : ∃ P, partN (l.drop i) = P := ⟨_, rfl⟩
          rw [hP] at CP
          have HP := Lib.hid hP
          have HI2 := Lib.hid HI.out.2.2
          have HI1 := Lib.hid HI.out.2.1
          clear hP
          cases first with
          | true =>
            have hcond : Goes true (l.drop i) := fun h => by cases h.1
            have HC := Lib.hid hcond
            clear hcond
            go_wp2_with fail
            go_at_call 21
            refine (CP.out wr).mono ?_
            rintro e w3 ⟨hb3, hh⟩
            rcases hh with ⟨hr, z, n, rfl⟩ | ⟨g, r, hr, rfl⟩
            · have hTn : T = none := by
                rw [← HI.out.1]
                exact partsN_none _ _ _ _ HC.out (by rw [HP.out]; exact hr)
              have hres : R = none := by rw [HRES.out, hTn]
              subst hres
              have hz3 := hb3.size
              have K0 := HI2.out.1.keep hb3 (by have := HI2.out.2.2.2; omega)
              have K2 := HI2.out.2.1.keep hb3 (by have := HI2.out.2.2.2; omega)
              have HB3 := Lib.hid (HI2.out.2.2.1.trans (hb3.mono (by have := HI2.out.2.2.2; omega)))
              have HZ3 := Lib.hid (show w.heap.size + 3 ≤ w3.heap.size by have := HI2.out.2.2.2; omega)
              clear hb3 hr hTn
              go_wp2_with (first | (refine wpList_allocA rfl rfl ?_; intro w4 hs4 ha4 hb4; have M0 := K0.keep hb4 (by have := HZ3.out; omega); have M2 := K2.keep hb4 (by have := HZ3.out; omega)) | (refine wpList_storeA rfl _ _ rfl _ _ rfl rfl _ ha4 ?_; intro w5 ha5 hb5; have N0 := M0.but hb5 (by have := HZ3.out; omega); have N2 := M2.but hb5 (by have := HZ3.out; omega)) | (refine wpList_loadA rfl _ rfl _ rfl _ N2 ?_) | (refine wpList_storeA rfl _ _ rfl _ _ rfl rfl _ N0 ?_; intro w6 ha6 hb6))
              (try simp only [Exit.inBlock, Exit.then])
              refine bodyPost_ret (results_A3 rfl rfl ha6) rfl ?_
              exact ⟨rfl, ((HB3.out.trans (hb4.mono (by have := HZ3.out; omega))).trans (hb5.below (by have := HZ3.out; omega))).trans (hb6.below (Nat.le_refl _))⟩
            · have hPg : partN (l.drop i) = some (g, r) := by rw [HP.out]; exact hr
              have hnx := next_drop l i _ hPg
              have hlen := partN_len _ _ hPg
              simp only at hnx hlen
              rw [List.length_drop, HM.out] at hlen
              obtain ⟨nx, hnx2⟩ : ∃ nx, m - r.length = nx := ⟨_, rfl⟩
              rw [HM.out, hnx2] at hnx
              have hnxm : nx ≤ m := by omega
              have hnxi : i < nx := by omega
              have enx : (l.length : Int) - r.length = (nx : Int) := by rw [HM.out]; omega
              rw [enx]
              have hTs : partsN ((l.drop nx).length + 1) false (or2 f g) (l.drop nx) = T := by
                rw [← HI.out.1, partsN_step _ _ _ _ _ HC.out hPg]
                show partsN _ false (or2 f g) (l.drop nx) = partsN _ false (or2 f g) r
                rw [hnx]
                exact partsN_fuel _ _ _ _ _ (by omega) (by rw [List.length_drop, List.length_drop, HM.out]; omega)
              have HTS := Lib.hid hTs
              have hz3 := hb3.size
              have HZ3 := Lib.hid (show w.heap.size + 3 ≤ w3.heap.size by have := HI2.out.2.2.2; omega)
              have K0 := HI2.out.1.keep hb3 (by have := HI2.out.2.2.2; omega)
              have K1 := HI1.out.keep hb3 (by have := HI2.out.2.2.2; omega)
              have K2 := HI2.out.2.1.keep hb3 (by have := HI2.out.2.2.2; omega)
              have HB3 := Lib.hid (HI2.out.2.2.1.trans (hb3.mono (by have := HI2.out.2.2.2; omega)))
              clear hb3 hr hTs hPg hnx hlen enx hnx2
              go_wp2_with (first | (refine wpList_allocA rfl rfl ?_; intro w4 hs4 ha4 hb4) | (refine wpList_storeA rfl _ _ rfl _ _ rfl rfl _ ha4 ?_; intro w5 ha5 hb5))
              have N0 := Lib.hid ((K0.keep hb4 (by have := HZ3.out; omega)).but hb5 (by have := HZ3.out; omega))
              have N1 := Lib.hid ((K1.keep hb4 (by have := HZ3.out; omega)).but hb5 (by have := HZ3.out; omega))
              have N2 := Lib.hid ((K2.keep hb4 (by have := HZ3.out; omega)).but hb5 (by have := HZ3.out; omega))
              have NP := Lib.hid ha5
              have NB := Lib.hid ((HB3.out.trans (hb4.mono (by have := HZ3.out; omega))).trans (hb5.below (by have := HZ3.out; omega)))
              have NZ := Lib.hid (show w.heap.size + 3 ≤ w5.heap.size by have := HZ3.out; rw [hb5.size, hs4]; omega)
              clear K0 K1 K2 ha4 hb4 ha5 hb5 hs4
              go_loopg [15] 256 (fun g'' s15 wx => ∃ c : Nat, s15 = .int .i64 c ∧ c ≤ 256 ∧ 256 - c ≤ g'' ∧ Hid (Arr wx (w.heap.size + 1) (mix c (or2 f g) f) ∧ But (w.heap.size + 1) w5 wx))
              case atStart => exact ⟨0, rfl, Nat.zero_le _, by omega, Lib.hid ⟨by rw [mix_zero]; exact N1.out, But.refl⟩⟩
              case round =>
                obtain ⟨c, rfl, hc, hgc, HX⟩ := hrel
                by_cases hlt : c < 256
                · have hc1 := HX.out.1.cell hlt
                  rw [mix_at] at hc1
                  have hcp := (NP.out.but HX.out.2 (by have := HZ3.out; omega)).cell hlt
                  have hst := setCell_put HX.out.1 c (or2 f g c) hlt
                  rw [mix_upd] at hst
                  have hfz := HX.out.1.frozen c
                  have HPP := Lib.hid (And.intro (putA_arr (g := mix (c + 1) (or2 f g) f) HX.out.1.lt) (putA_but (w := wr) (b := w.heap.size + 1) (g := mix (c + 1) (or2 f g) f)))
                  obtain ⟨wy, hwy⟩ : ∃ wy, putA wr (w.heap.size + 1) (mix (c + 1) (or2 f g) f) = wy := ⟨_, rfl⟩
                  rw [hwy] at hst HPP
                  cases hfc : f c with
                  | true =>
                    have e : or2 f g c = true := by simp [or2, hfc]
                    rw [e] at hst
                    rw [hfc] at hc1
                    clear e hfc hwy
                    go_wp2
                    go_roundg (256 - (c + 1))
                    case measure => omega
                    case rel => exact ⟨c + 1, by go_num, by omega, by omega, Lib.hid ⟨HPP.out.1, HX.out.2.trans HPP.out.2⟩⟩
                  | false =>
                    have e : or2 f g c = g c := by simp [or2, hfc]
                    rw [e] at hst
                    rw [hfc] at hc1
                    clear e hfc hwy
                    go_wp2
                    go_roundg (256 - (c + 1))
                    case measure => omega
                    case rel => exact ⟨c + 1, by go_num, by omega, by omega, Lib.hid ⟨HPP.out.1, HX.out.2.trans HPP.out.2⟩⟩
                · obtain rfl : c = 256 := by omega
                  have A1 : Hid (Arr wr (w.heap.size + 1) (or2 f g)) := Lib.hid (by have := HX.out.1; unfold Arr at this ⊢; rw [mix_end] at this; exact this)
                  go_wp2
                  go_roundg (m - nx + 2)
                  case measure => omega
                  case rel => exact ⟨nx, false, or2 f g, rfl, rfl, by omega, hnxm, Lib.hid ⟨HTS.out, A1.out, N0.out.but HX.out.2 (by omega), N2.out.but HX.out.2 (by omega), NB.out.trans (HX.out.2.below (by omega)), by rw [HX.out.2.size]; exact NZ.out⟩⟩
          | false =>
            by_cases hi : i < m
            · have ji := index_at l i i rfl (by rw [HM.out]; exact hi)
              obtain ⟨x, hx⟩ : ∃ x, (l.getD i 0).toNat = x := ⟨_, rfl⟩
              have x6 : x < 256 := by rw [← hx]; exact (l.getD i 0).toNat_lt
              rw [hx] at ji
              have hdi := drop_one' l i (by rw [HM.out]; exact hi)
              by_cases h93 : x = 93
              · subst h93
                have e93 : l.getD i 0 = 93 := UInt8.toNat_inj.1 hx
                have hTe : T = some (f, l.drop (i + 1)) := by
                  rw [← HI.out.1, partsN_end _ f (l.drop i) (by rw [hdi, e93]; rfl), List.drop_drop]
                rw [hTe] at HRES
                have HRR := Lib.hid HRES.out
                clear hx hdi e93 hTe HRES
                have mi : decide (m ≤ i) = false := decide_eq_false (by omega)
                have mi2 : ¬ m ≤ i := by omega
                go_wp2
                go_loopg [16] 0 (fun g'' s16 wx => s16 = .int .i64 0 ∧ wx = wr)
                case atStart => exact ⟨rfl, rfl⟩
                case round =>
                  obtain ⟨rfl, hwx⟩ := hrel
                  have hwx := hwx.symm
                  subst hwx
                  have hA1 := HI1.out
                  have hA0 := HI2.out.1
                  go_wp2_with (first | (refine wpList_loadA rfl _ rfl _ rfl _ hA1 ?_) | (refine wpList_storeA rfl _ _ rfl _ _ rfl rfl _ hA0 ?_; intro w4 ha4 hb4))
                  (try simp only [Exit.inBlock, Exit.then])
                  refine bodyPost_ret (results_A3 rfl rfl ha4) rfl ?_
                  refine ⟨?_, HI2.out.2.2.1.trans (hb4.below (Nat.le_refl _))⟩
                  have e9 : retP l R = .tuple #[.agg (arr f), .int .i64 ((i : Int) + 1), .int .i64 0] := by
                    rw [HRR.out]
                    rw [retP_some, List.length_drop, HM.out, show ((m : Int) - ((m - (i + 1) : Nat) : Int)) = (i : Int) + 1 by omega]
                  rw [e9]
                  rfl
              · have t93 : ((x : Int) != 93) = true := by simpa using (by omega : ¬ (x : Int) = 93)
                have hcond : Goes false (l.drop i) := fun h => h93 (by
                  have := h.2
                  rw [hdi] at this
                  simp only [List.head?_cons, Option.some.injEq] at this
                  rw [← hx, this]; rfl)
                clear hx hdi
                have HC := Lib.hid hcond
                clear hcond
                go_wp2_with fail
                go_at_call 21
                refine (CP.out wr).mono ?_
                rintro e w3 ⟨hb3, hh⟩
                rcases hh with ⟨hr, z, n, rfl⟩ | ⟨g, r, hr, rfl⟩
                · have hTn : T = none := by
                    rw [← HI.out.1]
                    exact partsN_none _ _ _ _ HC.out (by rw [HP.out]; exact hr)
                  have hres : R = none := by rw [HRES.out, hTn]
                  subst hres
                  have hz3 := hb3.size
                  have K0 := HI2.out.1.keep hb3 (by have := HI2.out.2.2.2; omega)
                  have K2 := HI2.out.2.1.keep hb3 (by have := HI2.out.2.2.2; omega)
                  have HB3 := Lib.hid (HI2.out.2.2.1.trans (hb3.mono (by have := HI2.out.2.2.2; omega)))
                  have HZ3 := Lib.hid (show w.heap.size + 3 ≤ w3.heap.size by have := HI2.out.2.2.2; omega)
                  clear hb3 hr hTn
                  go_wp2_with (first | (refine wpList_allocA rfl rfl ?_; intro w4 hs4 ha4 hb4; have M0 := K0.keep hb4 (by have := HZ3.out; omega); have M2 := K2.keep hb4 (by have := HZ3.out; omega)) | (refine wpList_storeA rfl _ _ rfl _ _ rfl rfl _ ha4 ?_; intro w5 ha5 hb5; have N0 := M0.but hb5 (by have := HZ3.out; omega); have N2 := M2.but hb5 (by have := HZ3.out; omega)) | (refine wpList_loadA rfl _ rfl _ rfl _ N2 ?_) | (refine wpList_storeA rfl _ _ rfl _ _ rfl rfl _ N0 ?_; intro w6 ha6 hb6))
                  (try simp only [Exit.inBlock, Exit.then])
                  refine bodyPost_ret (results_A3 rfl rfl ha6) rfl ?_
                  exact ⟨rfl, ((HB3.out.trans (hb4.mono (by have := HZ3.out; omega))).trans (hb5.below (by have := HZ3.out; omega))).trans (hb6.below (Nat.le_refl _))⟩
                · have hPg : partN (l.drop i) = some (g, r) := by rw [HP.out]; exact hr
                  have hnx := next_drop l i _ hPg
                  have hlen := partN_len _ _ hPg
                  simp only at hnx hlen
                  rw [List.length_drop, HM.out] at hlen
                  obtain ⟨nx, hnx2⟩ : ∃ nx, m - r.length = nx := ⟨_, rfl⟩
                  rw [HM.out, hnx2] at hnx
                  have hnxm : nx ≤ m := by omega
                  have hnxi : i < nx := by omega
                  have enx : (l.length : Int) - r.length = (nx : Int) := by rw [HM.out]; omega
                  rw [enx]
                  have hTs : partsN ((l.drop nx).length + 1) false (or2 f g) (l.drop nx) = T := by
                    rw [← HI.out.1, partsN_step _ _ _ _ _ HC.out hPg]
                    show partsN _ false (or2 f g) (l.drop nx) = partsN _ false (or2 f g) r
                    rw [hnx]
                    exact partsN_fuel _ _ _ _ _ (by omega) (by rw [List.length_drop, List.length_drop, HM.out]; omega)
                  have HTS := Lib.hid hTs
                  have hz3 := hb3.size
                  have HZ3 := Lib.hid (show w.heap.size + 3 ≤ w3.heap.size by have := HI2.out.2.2.2; omega)
                  have K0 := HI2.out.1.keep hb3 (by have := HI2.out.2.2.2; omega)
                  have K1 := HI1.out.keep hb3 (by have := HI2.out.2.2.2; omega)
                  have K2 := HI2.out.2.1.keep hb3 (by have := HI2.out.2.2.2; omega)
                  have HB3 := Lib.hid (HI2.out.2.2.1.trans (hb3.mono (by have := HI2.out.2.2.2; omega)))
                  clear hb3 hr hTs hPg hnx hlen enx hnx2
                  go_wp2_with (first | (refine wpList_allocA rfl rfl ?_; intro w4 hs4 ha4 hb4) | (refine wpList_storeA rfl _ _ rfl _ _ rfl rfl _ ha4 ?_; intro w5 ha5 hb5))
                  have N0 := Lib.hid ((K0.keep hb4 (by have := HZ3.out; omega)).but hb5 (by have := HZ3.out; omega))
                  have N1 := Lib.hid ((K1.keep hb4 (by have := HZ3.out; omega)).but hb5 (by have := HZ3.out; omega))
                  have N2 := Lib.hid ((K2.keep hb4 (by have := HZ3.out; omega)).but hb5 (by have := HZ3.out; omega))
                  have NP := Lib.hid ha5
                  have NB := Lib.hid ((HB3.out.trans (hb4.mono (by have := HZ3.out; omega))).trans (hb5.below (by have := HZ3.out; omega)))
                  have NZ := Lib.hid (show w.heap.size + 3 ≤ w5.heap.size by have := HZ3.out; rw [hb5.size, hs4]; omega)
                  clear K0 K1 K2 ha4 hb4 ha5 hb5 hs4
                  go_loopg [15] 256 (fun g'' s15 wx => ∃ c : Nat, s15 = .int .i64 c ∧ c ≤ 256 ∧ 256 - c ≤ g'' ∧ Hid (Arr wx (w.heap.size + 1) (mix c (or2 f g) f) ∧ But (w.heap.size + 1) w5 wx))
                  case atStart => exact ⟨0, rfl, Nat.zero_le _, by omega, Lib.hid ⟨by rw [mix_zero]; exact N1.out, But.refl⟩⟩
                  case round =>
                    obtain ⟨c, rfl, hc, hgc, HX⟩ := hrel
                    by_cases hlt : c < 256
                    · have hc1 := HX.out.1.cell hlt
                      rw [mix_at] at hc1
                      have hcp := (NP.out.but HX.out.2 (by have := HZ3.out; omega)).cell hlt
                      have hst := setCell_put HX.out.1 c (or2 f g c) hlt
                      rw [mix_upd] at hst
                      have hfz := HX.out.1.frozen c
                      have HPP := Lib.hid (And.intro (putA_arr (g := mix (c + 1) (or2 f g) f) HX.out.1.lt) (putA_but (w := wr) (b := w.heap.size + 1) (g := mix (c + 1) (or2 f g) f)))
                      obtain ⟨wy, hwy⟩ : ∃ wy, putA wr (w.heap.size + 1) (mix (c + 1) (or2 f g) f) = wy := ⟨_, rfl⟩
                      rw [hwy] at hst HPP
                      cases hfc : f c with
                      | true =>
                        have e : or2 f g c = true := by simp [or2, hfc]
                        rw [e] at hst
                        rw [hfc] at hc1
                        clear e hfc hwy
                        go_wp2
                        go_roundg (256 - (c + 1))
                        case measure => omega
                        case rel => exact ⟨c + 1, by go_num, by omega, by omega, Lib.hid ⟨HPP.out.1, HX.out.2.trans HPP.out.2⟩⟩
                      | false =>
                        have e : or2 f g c = g c := by simp [or2, hfc]
                        rw [e] at hst
                        rw [hfc] at hc1
                        clear e hfc hwy
                        go_wp2
                        go_roundg (256 - (c + 1))
                        case measure => omega
                        case rel => exact ⟨c + 1, by go_num, by omega, by omega, Lib.hid ⟨HPP.out.1, HX.out.2.trans HPP.out.2⟩⟩
                    · obtain rfl : c = 256 := by omega
                      have A1 : Hid (Arr wr (w.heap.size + 1) (or2 f g)) := Lib.hid (by have := HX.out.1; unfold Arr at this ⊢; rw [mix_end] at this; exact this)
                      go_wp2
                      go_roundg (m - nx + 2)
                      case measure => omega
                      case rel => exact ⟨nx, false, or2 f g, rfl, rfl, by omega, hnxm, Lib.hid ⟨HTS.out, A1.out, N0.out.but HX.out.2 (by omega), N2.out.but HX.out.2 (by omega), NB.out.trans (HX.out.2.below (by omega)), by rw [HX.out.2.size]; exact NZ.out⟩⟩
            · have hcond : Goes false (l.drop i) := fun h => by
                have := h.2
                rw [List.drop_eq_nil_of_le (by rw [HM.out]; omega)] at this
                cases this
              have HC := Lib.hid hcond
              clear hcond
              go_wp2_with fail
              go_at_call 21
              refine (CP.out wr).mono ?_
              rintro e w3 ⟨hb3, hh⟩
              rcases hh with ⟨hr, z, n, rfl⟩ | ⟨g, r, hr, rfl⟩
              · have hTn : T = none := by
                  rw [← HI.out.1]
                  exact partsN_none _ _ _ _ HC.out (by rw [HP.out]; exact hr)
                have hres : R = none := by rw [HRES.out, hTn]
                subst hres
                have hz3 := hb3.size
                have K0 := HI2.out.1.keep hb3 (by have := HI2.out.2.2.2; omega)
                have K2 := HI2.out.2.1.keep hb3 (by have := HI2.out.2.2.2; omega)
                have HB3 := Lib.hid (HI2.out.2.2.1.trans (hb3.mono (by have := HI2.out.2.2.2; omega)))
                have HZ3 := Lib.hid (show w.heap.size + 3 ≤ w3.heap.size by have := HI2.out.2.2.2; omega)
                clear hb3 hr hTn
                go_wp2_with (first | (refine wpList_allocA rfl rfl ?_; intro w4 hs4 ha4 hb4; have M0 := K0.keep hb4 (by have := HZ3.out; omega); have M2 := K2.keep hb4 (by have := HZ3.out; omega)) | (refine wpList_storeA rfl _ _ rfl _ _ rfl rfl _ ha4 ?_; intro w5 ha5 hb5; have N0 := M0.but hb5 (by have := HZ3.out; omega); have N2 := M2.but hb5 (by have := HZ3.out; omega)) | (refine wpList_loadA rfl _ rfl _ rfl _ N2 ?_) | (refine wpList_storeA rfl _ _ rfl _ _ rfl rfl _ N0 ?_; intro w6 ha6 hb6))
                (try simp only [Exit.inBlock, Exit.then])
                refine bodyPost_ret (results_A3 rfl rfl ha6) rfl ?_
                exact ⟨rfl, ((HB3.out.trans (hb4.mono (by have := HZ3.out; omega))).trans (hb5.below (by have := HZ3.out; omega))).trans (hb6.below (Nat.le_refl _))⟩
              · have hPg : partN (l.drop i) = some (g, r) := by rw [HP.out]; exact hr
                have hnx := next_drop l i _ hPg
                have hlen := partN_len _ _ hPg
                simp only at hnx hlen
                rw [List.length_drop, HM.out] at hlen
                obtain ⟨nx, hnx2⟩ : ∃ nx, m - r.length = nx := ⟨_, rfl⟩
                rw [HM.out, hnx2] at hnx
                have hnxm : nx ≤ m := by omega
                have hnxi : i < nx := by omega
                omega
  · have hres : R = none := by
      rw [← HR.out]
      unfold parseL
      rw [if_neg]
      rw [hd0]
      simp only [List.head?_cons, Option.some.injEq]
      exact fun e => h91 (by rw [← ha, e]; rfl)
    subst hres
    have t91 : ((a : Int) != 91) = true := by simpa using (by omega : ¬ (a : Int) = 91)
    clear ha hd0 HR
    go_enter Try.func11, Try.ntmps11
    go_wp2_with (first | (refine wpList_allocA rfl rfl ?_; (first | (have := hs1; intro w2 hs2 ha2 hb2; clear this; have hh0 := (ha0.keep hb1 (by omega)).keep hb2 (by omega); have hh2 : Arr w2 (w.heap.size + 2) noB := (by rw [← show w1.heap.size = w.heap.size + 2 by omega]; exact ha2)) | (have := hs0; intro w1 hs1 ha1 hb1; clear this) | (intro w0 hs0 ha0 hb0))) | (refine wpList_loadA rfl _ rfl _ rfl _ hh2 ?_) | (refine wpList_storeA rfl _ _ rfl _ _ rfl rfl _ hh0 ?_; intro w4 ha4 hb4))
    (try simp only [Exit.inBlock, Exit.then])
    refine bodyPost_ret (results_A3 rfl rfl ha4) rfl ?_
    exact ⟨rfl, ((hb0.trans (hb1.mono (by omega))).trans (hb2.mono (by omega))).trans (hb4.below (Nat.le_refl _))⟩
set_option maxHeartbeats 2000000 in
set_option maxRecDepth 100000 in
theorem refParse_out (l : List UInt8) (a : Int) (w : World) (hl : l.length ≤ 1000000000) (h : ¬ (0 ≤ a ∧ a < l.length)) (h1 : -9223372036854775808 ≤ a) (h2 : a ≤ 9223372036854775807) :
    Calls Try.prog 11 #[.string (B l), .int .i64 a] w fun e w' => e = .returned (retP l none) ∧ Below w.heap.size w w' := by
  obtain ⟨m, hm⟩ : ∃ m, l.length = m := ⟨_, rfl⟩
  have hsz : (B l).size = m := by rw [B_size]; exact hm
  rw [hm] at hl h
  clear hm
  by_cases h0 : a < 0
  · go_enter Try.func11, Try.ntmps11
    go_wp2_with (first | (refine wpList_allocA rfl rfl ?_; (first | (have := hs1; intro w2 hs2 ha2 hb2; clear this; have hh0 := (ha0.keep hb1 (by omega)).keep hb2 (by omega); have hh2 : Arr w2 (w.heap.size + 2) noB := (by rw [← show w1.heap.size = w.heap.size + 2 by omega]; exact ha2)) | (have := hs0; intro w1 hs1 ha1 hb1; clear this) | (intro w0 hs0 ha0 hb0))) | (refine wpList_loadA rfl _ rfl _ rfl _ hh2 ?_) | (refine wpList_storeA rfl _ _ rfl _ _ rfl rfl _ hh0 ?_; intro w4 ha4 hb4))
    (try simp only [Exit.inBlock, Exit.then])
    refine bodyPost_ret (results_A3 rfl rfl ha4) rfl ?_
    exact ⟨rfl, ((hb0.trans (hb1.mono (by omega))).trans (hb2.mono (by omega))).trans (hb4.below (Nat.le_refl _))⟩
  · have hge : (m : Int) ≤ a := by omega
    go_enter Try.func11, Try.ntmps11
    go_wp2_with (first | (refine wpList_allocA rfl rfl ?_; (first | (have := hs1; intro w2 hs2 ha2 hb2; clear this; have hh0 := (ha0.keep hb1 (by omega)).keep hb2 (by omega); have hh2 : Arr w2 (w.heap.size + 2) noB := (by rw [← show w1.heap.size = w.heap.size + 2 by omega]; exact ha2)) | (have := hs0; intro w1 hs1 ha1 hb1; clear this) | (intro w0 hs0 ha0 hb0))) | (refine wpList_loadA rfl _ rfl _ rfl _ hh2 ?_) | (refine wpList_storeA rfl _ _ rfl _ _ rfl rfl _ hh0 ?_; intro w4 ha4 hb4))
    (try simp only [Exit.inBlock, Exit.then])
    refine bodyPost_ret (results_A3 rfl rfl ha4) rfl ?_
    exact ⟨rfl, ((hb0.trans (hb1.mono (by omega))).trans (hb2.mono (by omega))).trans (hb4.below (Nat.le_refl _))⟩
theorem parseAt_in (l : List UInt8) (k : Nat) (h : k ≤ l.length) : parseAt l k = parseL (l.drop k) := by
  unfold parseAt
  rw [if_pos (by omega), Int.toNat_natCast]
theorem refParse_is (l : List UInt8) (a : Int) (R : Option ((Nat → Bool) × List UInt8)) (hR : parseAt l a = R) (w : World) (hl : l.length ≤ 1000000000) (h1 : -9223372036854775808 ≤ a) (h2 : a ≤ 9223372036854775807) :
    Calls Try.prog 11 #[.string (B l), .int .i64 a] w fun e w' => e = .returned (retP l R) ∧ Below w.heap.size w w' := by
  by_cases h : 0 ≤ a ∧ a < l.length
  · obtain ⟨k, rfl⟩ : ∃ k : Nat, a = k := ⟨a.toNat, by omega⟩
    rw [parseAt_in l k (by omega)] at hR
    exact refParse_in l k R hR w hl (by omega)
  · have hres : R = none := by
      rw [← hR]
      unfold parseAt
      split
      · rename_i hc
        have : a = l.length := by omega
        rw [this, Int.toNat_natCast, List.drop_length]
        rfl
      · rfl
    subst hres
    exact refParse_out l a w hl h h1 h2
theorem retP_form (l : List UInt8) (R : Option ((Nat → Bool) × List UInt8)) : ∃ f n e, retP l R = .tuple #[.agg (arr f), .int .i64 n, .int .i64 e] := by
  cases R with
  | none => exact ⟨_, _, _, rfl⟩
  | some x => exact ⟨_, _, _, rfl⟩

set_option maxHeartbeats 4000000 in
set_option maxRecDepth 100000 in
theorem law3 (l : List UInt8) (a : Int) (w : World) (hl : l.length ≤ maxLen) (h1 : -9223372036854775808 ≤ a) (h2 : a ≤ 9223372036854775807) (hV : Vs w.heap.size w) :
    Calls Try.prog 3 #[.string (B l), .int .i64 a] w fun e w' => e = .returned (.bool true) ∧ Below w.heap.size w w' := by
  unfold maxLen at hl
  have HV := Lib.hid hV
  obtain ⟨m, hm⟩ : ∃ m, l.length = m := ⟨_, rfl⟩
  have hsz : (B l).size = m := by rw [B_size]; exact hm
  have HM := Lib.hid hm
  rw [hm] at hl
  clear hm hV
  by_cases hbig : 1000 < m
  · go_enter Try.func3, Try.ntmps3
    go_wp2
    go_ret
    exact ⟨rfl, Below.refl _ _⟩
  · obtain ⟨R, hR⟩ : ∃ R, parseAt l a = R := ⟨_, rfl⟩
    have C1 := Lib.hid (fun (W : World) (hW : Vs W.heap.size W) => parse_b l a R _ hR rfl (by rw [HM.out]; omega) h1 h2 W hW)
    have C2 := Lib.hid (fun W => refParse_is l a R hR W (by rw [HM.out]; omega) h1 h2)
    obtain ⟨g, nx, er, hf⟩ := retP_form l R
    rw [hf] at C1 C2
    clear hR hf
    go_enter Try.func3, Try.ntmps3
    go_wp2_with fail
    go_at_call 10
    refine (C1.out _ HV.out).mono ?_
    rintro e w1 ⟨rfl, hb1⟩
    go_wp2_with (first | (refine wpList_allocA rfl rfl ?_; intro w2 hs2 ha2 hb2) | (refine wpList_storeA rfl _ _ rfl _ _ rfl rfl _ ha2 ?_; intro w3 ha3 hb3))
    have hz1 := hb1.size
    have q3 : w3.heap.size = w1.heap.size + 1 := by rw [hb3.size, hs2]
    have HB3 := Lib.hid (hb1.trans ((hb2.mono hz1).trans (hb3.below hz1)))
    have A3 := Lib.hid ha3
    clear ha2 hb2 ha3 hb3 hs2 hb1
    go_at_call 11
    refine (C2.out _).mono ?_
    rintro e w4 ⟨rfl, hb4⟩
    have hz4 := hb4.size
    go_wp2_with (first | (refine wpList_allocA rfl rfl ?_; intro w5 hs5 ha5 hb5) | (refine wpList_storeA rfl _ _ rfl _ _ rfl rfl _ ha5 ?_; intro w6 ha6 hb6; have hA1 := ((A3.out.keep hb4 (by omega)).keep hb5 (by omega)).but hb6 (by omega)) | (refine wpList_loadA rfl _ rfl _ rfl _ hA1 ?_) | (refine wpList_loadA rfl _ rfl _ rfl _ ha6 ?_) | (refine wpList_eqM rfl _ _ _ rfl g rfl rfl ?_))
    have HB6 := Lib.hid (HB3.out.trans ((hb4.mono HB3.out.size).trans ((hb5.mono (by omega)).trans (hb6.below (by omega)))))
    go_at_call 12
    refine (does_is _ ((HV.out.below HB6.out).more HB6.out.size)).mono ?_
    rintro e w7 ⟨rfl, hb7⟩
    go_wp2
    go_ret
    exact ⟨rfl, HB6.out.trans (hb7.mono HB6.out.size)⟩
theorem law3L (s : ByteArray) (a : Int) (w : World) (hl : s.size ≤ maxLen) (h1 : -9223372036854775808 ≤ a) (h2 : a ≤ 9223372036854775807) (hV : Vs w.heap.size w) :
    Calls Try.prog 3 #[.string s, .int .i64 a] w fun e w' => e = .returned (.bool true) ∧ Below w.heap.size w w' := by
  have := law3 s.data.toList a w (by rw [Array.length_toList]; exact hl) h1 h2 hV
  rwa [B_list] at this
end Go.Proofs.Ytmemdmjfccepgaa.cls
