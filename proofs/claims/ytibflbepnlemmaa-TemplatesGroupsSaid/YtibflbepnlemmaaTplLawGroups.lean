/- TemplatesGroups, walked. -/
import Derived.Test.YtibflbepnlemmaaTplBytes
namespace Go.Proofs.Ytibflbepnlemmaa.tpl
open Go.RowKit Go.Lib
set_option linter.unusedVariables false
set_option linter.unusedSimpArgs false
set_option linter.unnecessarySimpa false
set_option linter.unusedSectionVars false

/-- How a group is asked for. -/
def askB (k : Nat) : List UInt8 := if k = 0 then [38] else [92, UInt8.ofNat (48 + k)]
theorem ask_is (k : Nat) (hk : k < 10) : ok (askB k) = true ∧ mo (askB k) = k ∧ (askB k).length ≤ 2 ∧ ∀ S, ex S (askB k) = S k := by
  unfold askB
  by_cases h : k = 0
  · subst h
    exact ⟨by decide, by decide, by decide, fun S => by simp [ex]⟩
  · rw [if_neg h]
    have e : (UInt8.ofNat (48 + k)).toNat = 48 + k := by simp; omega
    have hd : digB (UInt8.ofNat (48 + k)) = true := by unfold digB; rw [e]; simp; omega
    refine ⟨by rw [ok_bs]; rfl, ?_, by simp, fun S => ?_⟩
    · rw [mo_bs]
      simp only [dig, hd, if_true, e]
      show max (48 + k - 48) 0 = k
      omega
    · rw [ex_bs]
      simp only [esc, hd, if_true, e]
      rw [show 48 + k - 48 = k by omega]
      simp [ex]
theorem whole_is (t : List UInt8) (ht : ∀ a ∈ t, spec a = false) (k : Nat) (hk : k < 10) : ok (((t ++ askB k) ++ t) ++ askB k) = true ∧ mo (((t ++ askB k) ++ t) ++ askB k) = k ∧ ∀ S, ex S (((t ++ askB k) ++ t) ++ askB k) = ((t ++ S k) ++ t) ++ S k := by
  obtain ⟨p1, p2, p3⟩ := plain_all t ht
  obtain ⟨a1, a2, _, a4⟩ := ask_is k hk
  obtain ⟨b1, b2, b3⟩ := ok_app t (askB k) p1
  obtain ⟨c1, c2, c3⟩ := ok_app (t ++ askB k) t (b1.trans a1)
  obtain ⟨d1, d2, d3⟩ := ok_app ((t ++ askB k) ++ t) (askB k) (c1.trans p1)
  refine ⟨d1.trans a1, ?_, fun S => ?_⟩
  · rw [d2, c2, b2, p2, a2]; omega
  · rw [d3, c3, b3, p3, a4]
theorem upd2_stf (k : Nat) (x y : Int) (s : List UInt8) : stf (upd2 no0 k x y) s k = st2 x y s := by
  rw [stf_is]
  unfold upd2
  simp

set_option maxHeartbeats 4000000 in
set_option maxRecDepth 100000 in
theorem law7 (s t : List UInt8) (n : Nat) (x y : Int) (w : World) (hn : n < 256) (hs : s.length ≤ maxLen) (ht : t.length ≤ maxLen) :
    Calls Try.prog 7 #[.agg #[.string (B s), .string (B t)], .int .u8 (n : Int), .agg #[.int .i64 x, .int .i64 y]] w fun e w' => e = .returned (.bool true) ∧ Below w.heap.size w w' := by
  unfold maxLen at hs ht
  obtain ⟨m, hm⟩ : ∃ m, s.length = m := ⟨_, rfl⟩
  obtain ⟨r, hr⟩ : ∃ r, t.length = r := ⟨_, rfl⟩
  have hsz : (B s).size = m := by rw [B_size]; exact hm
  have hsy : (B t).size = r := by rw [B_size]; exact hr
  have HM := Lib.hid hm
  have HR := Lib.hid hr
  rw [hm] at hs
  rw [hr] at ht
  clear hm hr
  by_cases hbig : 1000 < m
  · go_enter Try.func7, Try.ntmps7
    go_wp2
    go_quiet (fail)
    go_wp2
    go_ret
    exact ⟨rfl, below_drewN (((Below.refl _ _).alloc (Nat.le_refl _) _).alloc (by simp) _) _⟩
  · by_cases hbig2 : 100 < r
    · go_enter Try.func7, Try.ntmps7
      go_wp2
      go_quiet (fail)
      go_wp2
      go_ret
      exact ⟨rfl, below_drewN (((Below.refl _ _).alloc (Nat.le_refl _) _).alloc (by simp) _) _⟩
    · have CD := Lib.hid (fun W => does_is W)
      go_enter Try.func7, Try.ntmps7
      go_wp2
      go_quiet (fail)
      go_wp2
      have HW : Hid (Below w.heap.size w ((((w.alloc (.cells #[.string (B s), .string (B t)] 40)).alloc (.cells #[.int .i64 x, .int .i64 y] 22)).drewN nq)) ∧ At ((((w.alloc (.cells #[.string (B s), .string (B t)] 40)).alloc (.cells #[.int .i64 x, .int .i64 y] 22)).drewN nq)) (w.heap.size + 1) 22 #[.int .i64 x, .int .i64 y] ∧ ((((w.alloc (.cells #[.string (B s), .string (B t)] 40)).alloc (.cells #[.int .i64 x, .int .i64 y] 22)).drewN nq)).heap.size = w.heap.size + 2) := Lib.hid ⟨below_drewN (((Below.refl _ _).alloc (Nat.le_refl _) _).alloc (by simp) _) _, by have := At.new (w.alloc (.cells #[.string (B s), .string (B t)] 40)) 22 #[.int .i64 x, .int .i64 y]; rw [World.size_alloc] at this; exact this, by show (World.alloc _ _).heap.size = _; simp⟩
      generalize ((((w.alloc (.cells #[.string (B s), .string (B t)] 40)).alloc (.cells #[.int .i64 x, .int .i64 y] 22)).drewN nq)) = w1 at HW ⊢
      go_loopg [9] r (fun g s9 wr => ∃ k : Nat, s9 = .int .i64 k ∧ k ≤ r ∧ r - k ≤ g ∧ wr = w1 ∧ Hid (∀ j, j < k → spec (t.getD j 0) = false))
      case atStart => exact ⟨0, rfl, Nat.zero_le _, by omega, rfl, Lib.hid fun j h => by omega⟩
      case round =>
        obtain ⟨k, rfl, hk, hg, rfl, HI⟩ := hrel
        by_cases hlt : k < r
        · have hkl : k < t.length := by rw [HR.out]; exact hlt
          have ix := index_at t k k rfl hkl
          obtain ⟨a, hga⟩ : ∃ a, t.getD k 0 = a := ⟨_, rfl⟩
          have HGA := Lib.hid hga
          rw [hga] at ix
          clear hga hkl
          cases hsp : spec a with
          | true =>
            have hcase : a = 38 ∨ a = 92 := by simpa [spec] using hsp
            clear hsp
            rcases hcase with rfl | rfl
            · go_wp2_with fail
              go_at_call 13
              refine (CD.out _).mono ?_
              rintro e w5 ⟨rfl, hb5⟩
              go_wp2
              go_ret
              exact ⟨rfl, HW.out.1.trans (hb5.mono HW.out.1.size)⟩
            · go_wp2_with fail
              go_at_call 13
              refine (CD.out _).mono ?_
              rintro e w5 ⟨rfl, hb5⟩
              go_wp2
              go_ret
              exact ⟨rfl, HW.out.1.trans (hb5.mono HW.out.1.size)⟩
          | false =>
            obtain ⟨h1, h2⟩ := spec_no hsp
            have q1 := byte_no38 h1
            have q2 := byte_no h2
            have HN : Hid (∀ j, j < k + 1 → spec (t.getD j 0) = false) := Lib.hid fun j hj => by
              by_cases he : j = k
              · subst he; rw [HGA.out]; exact hsp
              · exact HI.out j (by omega)
            clear hsp h1 h2
            go_wp2
            go_roundg (r - (k + 1))
            case measure => omega
            case rel => exact ⟨k + 1, by go_num, by omega, by omega, rfl, HN⟩
        · obtain rfl : k = r := by omega
          have hall : ∀ a ∈ t, spec a = false := fun a ha => by
            obtain ⟨j, hj, rfl⟩ := List.getElem_of_mem ha
            have := HI.out j (by rw [← HR.out]; exact hj)
            rwa [show t.getD j 0 = t[j] by simp [List.getD, List.getElem?_eq_getElem hj]] at this
          obtain ⟨q, hq⟩ : ∃ q, n % 10 = q := ⟨_, rfl⟩
          have hq10 : q < 10 := by omega
          have hrem : (n : Int).tmod 10 = (q : Int) := by rw [Int.tmod_eq_emod_of_nonneg (by omega)]; omega
          have c0 := HW.out.2.1.cell 0
          have c1 := HW.out.2.1.cell 1
          have WH := Lib.hid (whole_is t hall q hq10)
          have AQ := Lib.hid (ask_is q hq10)
          have ad := fun b W => addr23 b q (q : Int) rfl hq10 W
          have HQ := Lib.hid hq
          clear HI hall hq
          -- WAYS
          obtain ⟨R, hR⟩ : ∃ R, st2 x y s = R := ⟨_, rfl⟩
          have HRR := Lib.hid hR
          have HRL : Hid (R.length ≤ 1000) := Lib.hid (by have h1 := stf_len (upd2 no0 0 x y) s 0; rw [upd2_stf, hR] at h1; have := HM.out; omega)
          unfold st2 at hR
          rw [HM.out] at hR
          by_cases hq0 : q = 0
          · subst hq0
            by_cases h1 : x < 0
            · rw [if_pos (.inl h1)] at hR
              subst hR
              have q1 : decide (0 ≤ x) = false := decide_eq_false (by omega)
              have RX : Hid (ok (((t ++ [38]) ++ t) ++ [38]) = true ∧ mo (((t ++ [38]) ++ t) ++ [38]) = 0 ∧ ex (stf (upd2 no0 0 x y) s) (((t ++ [38]) ++ t) ++ [38]) = (t ++ t)) := Lib.hid (by
                have h1 := WH.out
                rw [show askB 0 = [38] from rfl] at h1
                refine ⟨h1.1, h1.2.1, ?_⟩
                rw [h1.2.2, upd2_stf, HRR.out]
                simp)
              have ad1 := fun W => add_B t [38] (by have := HR.out; simp; omega) W
              have ad2 := fun W => add_B (t ++ [38]) t (by have := HR.out; simp; omega) W
              have ad3 := fun W => add_B ((t ++ [38]) ++ t) [38] (by have := HR.out; simp; omega) W
              have eq7 : (B t ++ (⟨#[]⟩ : ByteArray) ++ B t ++ (⟨#[]⟩ : ByteArray)).toList = t ++ t := by rw [show (⟨#[]⟩ : ByteArray) = B [] from rfl, B_app, B_app, B_app, Lib.toList_data, list_B]; simp
              have htl : t.length ≤ 100 := by have := HR.out; omega
              have CP := Lib.hid (fun W => parse_is (((t ++ [38]) ++ t) ++ [38]) W (by have := HR.out; simp; omega))
              clear WH AQ
              go_wp2_with (first | (refine wpList_allocSp rfl rfl ?_; intro w2 hs2 ha2 hb2; have c2 := (hb2.cell (p := ⟨w.heap.size + 1, 0, none⟩) (by have := HW.out.2.2; show w.heap.size + 1 < _; omega)).trans c0; have c3 := (hb2.cell (p := ⟨w.heap.size + 1, 1, none⟩) (by have := HW.out.2.2; show w.heap.size + 1 < _; omega)).trans c1) | (refine wpList_storeP rfl _ _ rfl _ 0 x y rfl rfl no0 ha2 hq10 ?_; intro w3 hs3 ha3 hb3; have HU := Lib.hid (hb2.trans hb3); have c4 := (hb3.cell (p := ⟨w.heap.size + 1, 0, none⟩) (by have := HW.out.2.2; show w.heap.size + 1 < _; omega)).trans c2; have c5 := (hb3.cell (p := ⟨w.heap.size + 1, 1, none⟩) (by have := HW.out.2.2; show w.heap.size + 1 < _; omega)).trans c3))
              have hp4 : Sp w3 wr.heap.size (upd2 no0 0 x y) := ha3
              have H4 := Lib.hid (HW.out.1.trans ((hb2.trans hb3).mono HW.out.1.size))
              clear c0 c1 c2 c3 c4 c5 ha2 ha3 hb2 hb3 ad1 ad2 ad3 ad HU
              go_at_call 9
              refine (CP.out _).mono ?_
              rintro e w5 ⟨hs5, hb5⟩
              obtain ⟨v, ps, rfl, hT, hX, hM, hL⟩ := hs5.1 RX.out.1
              have hp5 : Sp w5 wr.heap.size (upd2 no0 0 x y) := At.keep hp4 hb5 (At.lt hp4)
              have H5 := Lib.hid (H4.out.trans (hb5.mono H4.out.size))
              have hle : ps.length ≤ 1000000 := by have := HR.out; simp at hL; omega
              have CE := Lib.hid (expand_is v ps s (upd2 no0 0 x y) w5 hle (by have := HM.out; omega) (by rw [hX, RX.out.2.2]; have := HR.out; simp; omega) hT)
              rw [hX, RX.out.2.2] at CE
              rw [RX.out.2.1] at hM
              have HT := Lib.hid (And.intro hT (And.intro hM hle))
              clear hs5 hb5 hp4 hT hX hM hL hle CP
              go_wp2_with (refine wpList_loadSpM rfl _ rfl _ rfl _ hp5 ?_)
              go_at_call 12
              refine CE.out.mono ?_
              rintro e w6 ⟨rfl, hb6⟩
              have H6 := Lib.hid (H5.out.trans (hb6.mono H5.out.size))
              have CM := Lib.hid (most_is v ps w6 HT.out.2.2 (HT.out.1.below hb6))
              rw [HT.out.2.1] at CM
              clear hb6 hp5 CE
              go_wp2_with fail
              go_at_call 11
              refine CM.out.mono ?_
              rintro e w7 ⟨rfl, hw7⟩
              rw [hw7]
              clear hw7
              go_wp2_with fail
              go_at_call 13
              refine (CD.out _).mono ?_
              rintro e w8 ⟨rfl, hb8⟩
              go_wp2
              go_ret
              exact ⟨rfl, H6.out.trans (hb8.mono H6.out.size)⟩
            · have q1 : decide (0 ≤ x) = true := decide_eq_true (by omega)
              by_cases h2 : y < x
              · rw [if_pos (.inr (.inl h2))] at hR
                subst hR
                have q2 : decide (x ≤ y) = false := decide_eq_false (by omega)
                have RX : Hid (ok (((t ++ [38]) ++ t) ++ [38]) = true ∧ mo (((t ++ [38]) ++ t) ++ [38]) = 0 ∧ ex (stf (upd2 no0 0 x y) s) (((t ++ [38]) ++ t) ++ [38]) = (t ++ t)) := Lib.hid (by
                  have h1 := WH.out
                  rw [show askB 0 = [38] from rfl] at h1
                  refine ⟨h1.1, h1.2.1, ?_⟩
                  rw [h1.2.2, upd2_stf, HRR.out]
                  simp)
                have ad1 := fun W => add_B t [38] (by have := HR.out; simp; omega) W
                have ad2 := fun W => add_B (t ++ [38]) t (by have := HR.out; simp; omega) W
                have ad3 := fun W => add_B ((t ++ [38]) ++ t) [38] (by have := HR.out; simp; omega) W
                have eq7 : (B t ++ (⟨#[]⟩ : ByteArray) ++ B t ++ (⟨#[]⟩ : ByteArray)).toList = t ++ t := by rw [show (⟨#[]⟩ : ByteArray) = B [] from rfl, B_app, B_app, B_app, Lib.toList_data, list_B]; simp
                have htl : t.length ≤ 100 := by have := HR.out; omega
                have CP := Lib.hid (fun W => parse_is (((t ++ [38]) ++ t) ++ [38]) W (by have := HR.out; simp; omega))
                clear WH AQ
                go_wp2_with (first | (refine wpList_allocSp rfl rfl ?_; intro w2 hs2 ha2 hb2; have c2 := (hb2.cell (p := ⟨w.heap.size + 1, 0, none⟩) (by have := HW.out.2.2; show w.heap.size + 1 < _; omega)).trans c0; have c3 := (hb2.cell (p := ⟨w.heap.size + 1, 1, none⟩) (by have := HW.out.2.2; show w.heap.size + 1 < _; omega)).trans c1) | (refine wpList_storeP rfl _ _ rfl _ 0 x y rfl rfl no0 ha2 hq10 ?_; intro w3 hs3 ha3 hb3; have HU := Lib.hid (hb2.trans hb3); have c4 := (hb3.cell (p := ⟨w.heap.size + 1, 0, none⟩) (by have := HW.out.2.2; show w.heap.size + 1 < _; omega)).trans c2; have c5 := (hb3.cell (p := ⟨w.heap.size + 1, 1, none⟩) (by have := HW.out.2.2; show w.heap.size + 1 < _; omega)).trans c3))
                have hp4 : Sp w3 wr.heap.size (upd2 no0 0 x y) := ha3
                have H4 := Lib.hid (HW.out.1.trans ((hb2.trans hb3).mono HW.out.1.size))
                clear c0 c1 c2 c3 c4 c5 ha2 ha3 hb2 hb3 ad1 ad2 ad3 ad HU
                go_at_call 9
                refine (CP.out _).mono ?_
                rintro e w5 ⟨hs5, hb5⟩
                obtain ⟨v, ps, rfl, hT, hX, hM, hL⟩ := hs5.1 RX.out.1
                have hp5 : Sp w5 wr.heap.size (upd2 no0 0 x y) := At.keep hp4 hb5 (At.lt hp4)
                have H5 := Lib.hid (H4.out.trans (hb5.mono H4.out.size))
                have hle : ps.length ≤ 1000000 := by have := HR.out; simp at hL; omega
                have CE := Lib.hid (expand_is v ps s (upd2 no0 0 x y) w5 hle (by have := HM.out; omega) (by rw [hX, RX.out.2.2]; have := HR.out; simp; omega) hT)
                rw [hX, RX.out.2.2] at CE
                rw [RX.out.2.1] at hM
                have HT := Lib.hid (And.intro hT (And.intro hM hle))
                clear hs5 hb5 hp4 hT hX hM hL hle CP
                go_wp2_with (refine wpList_loadSpM rfl _ rfl _ rfl _ hp5 ?_)
                go_at_call 12
                refine CE.out.mono ?_
                rintro e w6 ⟨rfl, hb6⟩
                have H6 := Lib.hid (H5.out.trans (hb6.mono H5.out.size))
                have CM := Lib.hid (most_is v ps w6 HT.out.2.2 (HT.out.1.below hb6))
                rw [HT.out.2.1] at CM
                clear hb6 hp5 CE
                go_wp2_with fail
                go_at_call 11
                refine CM.out.mono ?_
                rintro e w7 ⟨rfl, hw7⟩
                rw [hw7]
                clear hw7
                go_wp2_with fail
                go_at_call 13
                refine (CD.out _).mono ?_
                rintro e w8 ⟨rfl, hb8⟩
                go_wp2
                go_ret
                exact ⟨rfl, H6.out.trans (hb8.mono H6.out.size)⟩
              · have q2 : decide (x ≤ y) = true := decide_eq_true (by omega)
                by_cases h3 : (m : Int) < y
                · rw [if_pos (.inr (.inr h3))] at hR
                  subst hR
                  have q3 : decide (y ≤ (m : Int)) = false := decide_eq_false (by omega)
                  have RX : Hid (ok (((t ++ [38]) ++ t) ++ [38]) = true ∧ mo (((t ++ [38]) ++ t) ++ [38]) = 0 ∧ ex (stf (upd2 no0 0 x y) s) (((t ++ [38]) ++ t) ++ [38]) = (t ++ t)) := Lib.hid (by
                    have h1 := WH.out
                    rw [show askB 0 = [38] from rfl] at h1
                    refine ⟨h1.1, h1.2.1, ?_⟩
                    rw [h1.2.2, upd2_stf, HRR.out]
                    simp)
                  have ad1 := fun W => add_B t [38] (by have := HR.out; simp; omega) W
                  have ad2 := fun W => add_B (t ++ [38]) t (by have := HR.out; simp; omega) W
                  have ad3 := fun W => add_B ((t ++ [38]) ++ t) [38] (by have := HR.out; simp; omega) W
                  have eq7 : (B t ++ (⟨#[]⟩ : ByteArray) ++ B t ++ (⟨#[]⟩ : ByteArray)).toList = t ++ t := by rw [show (⟨#[]⟩ : ByteArray) = B [] from rfl, B_app, B_app, B_app, Lib.toList_data, list_B]; simp
                  have htl : t.length ≤ 100 := by have := HR.out; omega
                  have CP := Lib.hid (fun W => parse_is (((t ++ [38]) ++ t) ++ [38]) W (by have := HR.out; simp; omega))
                  clear WH AQ
                  go_wp2_with (first | (refine wpList_allocSp rfl rfl ?_; intro w2 hs2 ha2 hb2; have c2 := (hb2.cell (p := ⟨w.heap.size + 1, 0, none⟩) (by have := HW.out.2.2; show w.heap.size + 1 < _; omega)).trans c0; have c3 := (hb2.cell (p := ⟨w.heap.size + 1, 1, none⟩) (by have := HW.out.2.2; show w.heap.size + 1 < _; omega)).trans c1) | (refine wpList_storeP rfl _ _ rfl _ 0 x y rfl rfl no0 ha2 hq10 ?_; intro w3 hs3 ha3 hb3; have HU := Lib.hid (hb2.trans hb3); have c4 := (hb3.cell (p := ⟨w.heap.size + 1, 0, none⟩) (by have := HW.out.2.2; show w.heap.size + 1 < _; omega)).trans c2; have c5 := (hb3.cell (p := ⟨w.heap.size + 1, 1, none⟩) (by have := HW.out.2.2; show w.heap.size + 1 < _; omega)).trans c3))
                  have hp4 : Sp w3 wr.heap.size (upd2 no0 0 x y) := ha3
                  have H4 := Lib.hid (HW.out.1.trans ((hb2.trans hb3).mono HW.out.1.size))
                  clear c0 c1 c2 c3 c4 c5 ha2 ha3 hb2 hb3 ad1 ad2 ad3 ad HU
                  go_at_call 9
                  refine (CP.out _).mono ?_
                  rintro e w5 ⟨hs5, hb5⟩
                  obtain ⟨v, ps, rfl, hT, hX, hM, hL⟩ := hs5.1 RX.out.1
                  have hp5 : Sp w5 wr.heap.size (upd2 no0 0 x y) := At.keep hp4 hb5 (At.lt hp4)
                  have H5 := Lib.hid (H4.out.trans (hb5.mono H4.out.size))
                  have hle : ps.length ≤ 1000000 := by have := HR.out; simp at hL; omega
                  have CE := Lib.hid (expand_is v ps s (upd2 no0 0 x y) w5 hle (by have := HM.out; omega) (by rw [hX, RX.out.2.2]; have := HR.out; simp; omega) hT)
                  rw [hX, RX.out.2.2] at CE
                  rw [RX.out.2.1] at hM
                  have HT := Lib.hid (And.intro hT (And.intro hM hle))
                  clear hs5 hb5 hp4 hT hX hM hL hle CP
                  go_wp2_with (refine wpList_loadSpM rfl _ rfl _ rfl _ hp5 ?_)
                  go_at_call 12
                  refine CE.out.mono ?_
                  rintro e w6 ⟨rfl, hb6⟩
                  have H6 := Lib.hid (H5.out.trans (hb6.mono H5.out.size))
                  have CM := Lib.hid (most_is v ps w6 HT.out.2.2 (HT.out.1.below hb6))
                  rw [HT.out.2.1] at CM
                  clear hb6 hp5 CE
                  go_wp2_with fail
                  go_at_call 11
                  refine CM.out.mono ?_
                  rintro e w7 ⟨rfl, hw7⟩
                  rw [hw7]
                  clear hw7
                  go_wp2_with fail
                  go_at_call 13
                  refine (CD.out _).mono ?_
                  rintro e w8 ⟨rfl, hb8⟩
                  go_wp2
                  go_ret
                  exact ⟨rfl, H6.out.trans (hb8.mono H6.out.size)⟩
                · have q3 : decide (y ≤ (m : Int)) = true := decide_eq_true (by omega)
                  rw [if_neg (by omega)] at hR
                  have sl := fun W => slice_mid s x.toNat y.toNat x y (by omega) (by omega) (by omega) (by rw [HM.out]; omega) W
                  rw [hR] at sl
                  clear hR
                  have RX : Hid (ok (((t ++ [38]) ++ t) ++ [38]) = true ∧ mo (((t ++ [38]) ++ t) ++ [38]) = 0 ∧ ex (stf (upd2 no0 0 x y) s) (((t ++ [38]) ++ t) ++ [38]) = (((t ++ R) ++ t) ++ R)) := Lib.hid (by
                    have h1 := WH.out
                    rw [show askB 0 = [38] from rfl] at h1
                    refine ⟨h1.1, h1.2.1, ?_⟩
                    rw [h1.2.2, upd2_stf, HRR.out])
                  have ad1 := fun W => add_B t [38] (by have := HR.out; simp; omega) W
                  have ad2 := fun W => add_B (t ++ [38]) t (by have := HR.out; simp; omega) W
                  have ad3 := fun W => add_B ((t ++ [38]) ++ t) [38] (by have := HR.out; simp; omega) W
                  have eq7 : (B t ++ B R ++ B t ++ B R).toList = ((t ++ R) ++ t) ++ R := by rw [B_app, B_app, B_app, Lib.toList_data, list_B]
                  have htl : t.length ≤ 100 := by have := HR.out; omega
                  have hrl : R.length ≤ 1000 := HRL.out
                  have CP := Lib.hid (fun W => parse_is (((t ++ [38]) ++ t) ++ [38]) W (by have := HR.out; simp; omega))
                  clear WH AQ
                  go_wp2_with (first | (refine wpList_allocSp rfl rfl ?_; intro w2 hs2 ha2 hb2; have c2 := (hb2.cell (p := ⟨w.heap.size + 1, 0, none⟩) (by have := HW.out.2.2; show w.heap.size + 1 < _; omega)).trans c0; have c3 := (hb2.cell (p := ⟨w.heap.size + 1, 1, none⟩) (by have := HW.out.2.2; show w.heap.size + 1 < _; omega)).trans c1) | (refine wpList_storeP rfl _ _ rfl _ 0 x y rfl rfl no0 ha2 hq10 ?_; intro w3 hs3 ha3 hb3; have HU := Lib.hid (hb2.trans hb3); have c4 := (hb3.cell (p := ⟨w.heap.size + 1, 0, none⟩) (by have := HW.out.2.2; show w.heap.size + 1 < _; omega)).trans c2; have c5 := (hb3.cell (p := ⟨w.heap.size + 1, 1, none⟩) (by have := HW.out.2.2; show w.heap.size + 1 < _; omega)).trans c3))
                  have hp4 : Sp w3 wr.heap.size (upd2 no0 0 x y) := ha3
                  have H4 := Lib.hid (HW.out.1.trans ((hb2.trans hb3).mono HW.out.1.size))
                  clear c0 c1 c2 c3 c4 c5 ha2 ha3 hb2 hb3 ad1 ad2 ad3 ad HU
                  go_at_call 9
                  refine (CP.out _).mono ?_
                  rintro e w5 ⟨hs5, hb5⟩
                  obtain ⟨v, ps, rfl, hT, hX, hM, hL⟩ := hs5.1 RX.out.1
                  have hp5 : Sp w5 wr.heap.size (upd2 no0 0 x y) := At.keep hp4 hb5 (At.lt hp4)
                  have H5 := Lib.hid (H4.out.trans (hb5.mono H4.out.size))
                  have hle : ps.length ≤ 1000000 := by have := HR.out; simp at hL; omega
                  have CE := Lib.hid (expand_is v ps s (upd2 no0 0 x y) w5 hle (by have := HM.out; omega) (by rw [hX, RX.out.2.2]; have := HR.out; have := HRL.out; simp; omega) hT)
                  rw [hX, RX.out.2.2] at CE
                  rw [RX.out.2.1] at hM
                  have HT := Lib.hid (And.intro hT (And.intro hM hle))
                  clear hs5 hb5 hp4 hT hX hM hL hle CP
                  go_wp2_with (refine wpList_loadSpM rfl _ rfl _ rfl _ hp5 ?_)
                  go_at_call 12
                  refine CE.out.mono ?_
                  rintro e w6 ⟨rfl, hb6⟩
                  have H6 := Lib.hid (H5.out.trans (hb6.mono H5.out.size))
                  have CM := Lib.hid (most_is v ps w6 HT.out.2.2 (HT.out.1.below hb6))
                  rw [HT.out.2.1] at CM
                  clear hb6 hp5 CE
                  go_wp2_with fail
                  go_at_call 11
                  refine CM.out.mono ?_
                  rintro e w7 ⟨rfl, hw7⟩
                  rw [hw7]
                  clear hw7
                  go_wp2_with fail
                  go_at_call 13
                  refine (CD.out _).mono ?_
                  rintro e w8 ⟨rfl, hb8⟩
                  go_wp2
                  go_ret
                  exact ⟨rfl, H6.out.trans (hb8.mono H6.out.size)⟩
          · have hqp : 0 < q := by omega
            obtain ⟨u, hu⟩ : ∃ u, UInt8.ofNat (48 + q) = u := ⟨_, rfl⟩
            have HUE : Hid (UInt8.ofNat (48 + q) = u ∧ u.toNat = 48 + q) := Lib.hid ⟨hu, by rw [← hu]; simp; omega⟩
            clear hu
            by_cases h1 : x < 0
            · rw [if_pos (.inl h1)] at hR
              subst hR
              have q1 : decide (0 ≤ x) = false := decide_eq_false (by omega)
              have RX : Hid (ok (((t ++ [92, u]) ++ t) ++ [92, u]) = true ∧ mo (((t ++ [92, u]) ++ t) ++ [92, u]) = q ∧ ex (stf (upd2 no0 q x y) s) (((t ++ [92, u]) ++ t) ++ [92, u]) = (t ++ t)) := Lib.hid (by
                have h1 := WH.out
                rw [show askB q = [92, u] from by rw [← HUE.out.1]; exact if_neg hq0] at h1
                refine ⟨h1.1, h1.2.1, ?_⟩
                rw [h1.2.2, upd2_stf, HRR.out]
                simp)
              have ad1 := fun W => add_B t [92, u] (by have := HR.out; simp; omega) W
              have ad2 := fun W => add_B (t ++ [92, u]) t (by have := HR.out; simp; omega) W
              have ad3 := fun W => add_B ((t ++ [92, u]) ++ t) [92, u] (by have := HR.out; simp; omega) W
              have eq7 : (B t ++ (⟨#[]⟩ : ByteArray) ++ B t ++ (⟨#[]⟩ : ByteArray)).toList = t ++ t := by rw [show (⟨#[]⟩ : ByteArray) = B [] from rfl, B_app, B_app, B_app, Lib.toList_data, list_B]; simp
              have htl : t.length ≤ 100 := by have := HR.out; omega
              have CP := Lib.hid (fun W => parse_is (((t ++ [92, u]) ++ t) ++ [92, u]) W (by have := HR.out; simp; omega))
              clear WH AQ
              go_wp2_with (first | (refine wpList_allocSp rfl rfl ?_; intro w2 hs2 ha2 hb2; have c2 := (hb2.cell (p := ⟨w.heap.size + 1, 0, none⟩) (by have := HW.out.2.2; show w.heap.size + 1 < _; omega)).trans c0; have c3 := (hb2.cell (p := ⟨w.heap.size + 1, 1, none⟩) (by have := HW.out.2.2; show w.heap.size + 1 < _; omega)).trans c1) | (refine wpList_storeP rfl _ _ rfl _ q x y rfl rfl no0 ha2 hq10 ?_; intro w3 hs3 ha3 hb3; have HU := Lib.hid (hb2.trans hb3); have c4 := (hb3.cell (p := ⟨w.heap.size + 1, 0, none⟩) (by have := HW.out.2.2; show w.heap.size + 1 < _; omega)).trans c2; have c5 := (hb3.cell (p := ⟨w.heap.size + 1, 1, none⟩) (by have := HW.out.2.2; show w.heap.size + 1 < _; omega)).trans c3) | (refine wpList_bytes1 rfl _ rfl u _ (by have := HUE.out.2; omega) rfl ?_; intro w4 hs4 hb4 hcv; rw [hs3, hs2] at hcv; have c6 := (hb4.cell (p := ⟨w.heap.size + 1, 0, none⟩) (by have := HW.out.2.2; have := hb2.size; show w.heap.size + 1 < _; omega)).trans c4; have c7 := (hb4.cell (p := ⟨w.heap.size + 1, 1, none⟩) (by have := HW.out.2.2; have := hb2.size; show w.heap.size + 1 < _; omega)).trans c5))
              have hp4 : Sp w4 wr.heap.size (upd2 no0 q x y) := At.keep ha3 hb4 (by have := hb2.size; omega)
              have H4 := Lib.hid (HW.out.1.trans ((hb2.trans (hb3.trans (hb4.mono (by omega)))).mono HW.out.1.size))
              clear c0 c1 c2 c3 c4 c5 c6 c7 ha2 ha3 hb2 hb3 hb4 hcv ad1 ad2 ad3 ad HU
              go_at_call 9
              refine (CP.out _).mono ?_
              rintro e w5 ⟨hs5, hb5⟩
              obtain ⟨v, ps, rfl, hT, hX, hM, hL⟩ := hs5.1 RX.out.1
              have hp5 : Sp w5 wr.heap.size (upd2 no0 q x y) := At.keep hp4 hb5 (At.lt hp4)
              have H5 := Lib.hid (H4.out.trans (hb5.mono H4.out.size))
              have hle : ps.length ≤ 1000000 := by have := HR.out; simp at hL; omega
              have CE := Lib.hid (expand_is v ps s (upd2 no0 q x y) w5 hle (by have := HM.out; omega) (by rw [hX, RX.out.2.2]; have := HR.out; simp; omega) hT)
              rw [hX, RX.out.2.2] at CE
              rw [RX.out.2.1] at hM
              have HT := Lib.hid (And.intro hT (And.intro hM hle))
              clear hs5 hb5 hp4 hT hX hM hL hle CP
              go_wp2_with (refine wpList_loadSpM rfl _ rfl _ rfl _ hp5 ?_)
              go_at_call 12
              refine CE.out.mono ?_
              rintro e w6 ⟨rfl, hb6⟩
              have H6 := Lib.hid (H5.out.trans (hb6.mono H5.out.size))
              have CM := Lib.hid (most_is v ps w6 HT.out.2.2 (HT.out.1.below hb6))
              rw [HT.out.2.1] at CM
              clear hb6 hp5 CE
              go_wp2_with fail
              go_at_call 11
              refine CM.out.mono ?_
              rintro e w7 ⟨rfl, hw7⟩
              rw [hw7]
              clear hw7
              go_wp2_with fail
              go_at_call 13
              refine (CD.out _).mono ?_
              rintro e w8 ⟨rfl, hb8⟩
              go_wp2
              go_ret
              exact ⟨rfl, H6.out.trans (hb8.mono H6.out.size)⟩
            · have q1 : decide (0 ≤ x) = true := decide_eq_true (by omega)
              by_cases h2 : y < x
              · rw [if_pos (.inr (.inl h2))] at hR
                subst hR
                have q2 : decide (x ≤ y) = false := decide_eq_false (by omega)
                have RX : Hid (ok (((t ++ [92, u]) ++ t) ++ [92, u]) = true ∧ mo (((t ++ [92, u]) ++ t) ++ [92, u]) = q ∧ ex (stf (upd2 no0 q x y) s) (((t ++ [92, u]) ++ t) ++ [92, u]) = (t ++ t)) := Lib.hid (by
                  have h1 := WH.out
                  rw [show askB q = [92, u] from by rw [← HUE.out.1]; exact if_neg hq0] at h1
                  refine ⟨h1.1, h1.2.1, ?_⟩
                  rw [h1.2.2, upd2_stf, HRR.out]
                  simp)
                have ad1 := fun W => add_B t [92, u] (by have := HR.out; simp; omega) W
                have ad2 := fun W => add_B (t ++ [92, u]) t (by have := HR.out; simp; omega) W
                have ad3 := fun W => add_B ((t ++ [92, u]) ++ t) [92, u] (by have := HR.out; simp; omega) W
                have eq7 : (B t ++ (⟨#[]⟩ : ByteArray) ++ B t ++ (⟨#[]⟩ : ByteArray)).toList = t ++ t := by rw [show (⟨#[]⟩ : ByteArray) = B [] from rfl, B_app, B_app, B_app, Lib.toList_data, list_B]; simp
                have htl : t.length ≤ 100 := by have := HR.out; omega
                have CP := Lib.hid (fun W => parse_is (((t ++ [92, u]) ++ t) ++ [92, u]) W (by have := HR.out; simp; omega))
                clear WH AQ
                go_wp2_with (first | (refine wpList_allocSp rfl rfl ?_; intro w2 hs2 ha2 hb2; have c2 := (hb2.cell (p := ⟨w.heap.size + 1, 0, none⟩) (by have := HW.out.2.2; show w.heap.size + 1 < _; omega)).trans c0; have c3 := (hb2.cell (p := ⟨w.heap.size + 1, 1, none⟩) (by have := HW.out.2.2; show w.heap.size + 1 < _; omega)).trans c1) | (refine wpList_storeP rfl _ _ rfl _ q x y rfl rfl no0 ha2 hq10 ?_; intro w3 hs3 ha3 hb3; have HU := Lib.hid (hb2.trans hb3); have c4 := (hb3.cell (p := ⟨w.heap.size + 1, 0, none⟩) (by have := HW.out.2.2; show w.heap.size + 1 < _; omega)).trans c2; have c5 := (hb3.cell (p := ⟨w.heap.size + 1, 1, none⟩) (by have := HW.out.2.2; show w.heap.size + 1 < _; omega)).trans c3) | (refine wpList_bytes1 rfl _ rfl u _ (by have := HUE.out.2; omega) rfl ?_; intro w4 hs4 hb4 hcv; rw [hs3, hs2] at hcv; have c6 := (hb4.cell (p := ⟨w.heap.size + 1, 0, none⟩) (by have := HW.out.2.2; have := hb2.size; show w.heap.size + 1 < _; omega)).trans c4; have c7 := (hb4.cell (p := ⟨w.heap.size + 1, 1, none⟩) (by have := HW.out.2.2; have := hb2.size; show w.heap.size + 1 < _; omega)).trans c5))
                have hp4 : Sp w4 wr.heap.size (upd2 no0 q x y) := At.keep ha3 hb4 (by have := hb2.size; omega)
                have H4 := Lib.hid (HW.out.1.trans ((hb2.trans (hb3.trans (hb4.mono (by omega)))).mono HW.out.1.size))
                clear c0 c1 c2 c3 c4 c5 c6 c7 ha2 ha3 hb2 hb3 hb4 hcv ad1 ad2 ad3 ad HU
                go_at_call 9
                refine (CP.out _).mono ?_
                rintro e w5 ⟨hs5, hb5⟩
                obtain ⟨v, ps, rfl, hT, hX, hM, hL⟩ := hs5.1 RX.out.1
                have hp5 : Sp w5 wr.heap.size (upd2 no0 q x y) := At.keep hp4 hb5 (At.lt hp4)
                have H5 := Lib.hid (H4.out.trans (hb5.mono H4.out.size))
                have hle : ps.length ≤ 1000000 := by have := HR.out; simp at hL; omega
                have CE := Lib.hid (expand_is v ps s (upd2 no0 q x y) w5 hle (by have := HM.out; omega) (by rw [hX, RX.out.2.2]; have := HR.out; simp; omega) hT)
                rw [hX, RX.out.2.2] at CE
                rw [RX.out.2.1] at hM
                have HT := Lib.hid (And.intro hT (And.intro hM hle))
                clear hs5 hb5 hp4 hT hX hM hL hle CP
                go_wp2_with (refine wpList_loadSpM rfl _ rfl _ rfl _ hp5 ?_)
                go_at_call 12
                refine CE.out.mono ?_
                rintro e w6 ⟨rfl, hb6⟩
                have H6 := Lib.hid (H5.out.trans (hb6.mono H5.out.size))
                have CM := Lib.hid (most_is v ps w6 HT.out.2.2 (HT.out.1.below hb6))
                rw [HT.out.2.1] at CM
                clear hb6 hp5 CE
                go_wp2_with fail
                go_at_call 11
                refine CM.out.mono ?_
                rintro e w7 ⟨rfl, hw7⟩
                rw [hw7]
                clear hw7
                go_wp2_with fail
                go_at_call 13
                refine (CD.out _).mono ?_
                rintro e w8 ⟨rfl, hb8⟩
                go_wp2
                go_ret
                exact ⟨rfl, H6.out.trans (hb8.mono H6.out.size)⟩
              · have q2 : decide (x ≤ y) = true := decide_eq_true (by omega)
                by_cases h3 : (m : Int) < y
                · rw [if_pos (.inr (.inr h3))] at hR
                  subst hR
                  have q3 : decide (y ≤ (m : Int)) = false := decide_eq_false (by omega)
                  have RX : Hid (ok (((t ++ [92, u]) ++ t) ++ [92, u]) = true ∧ mo (((t ++ [92, u]) ++ t) ++ [92, u]) = q ∧ ex (stf (upd2 no0 q x y) s) (((t ++ [92, u]) ++ t) ++ [92, u]) = (t ++ t)) := Lib.hid (by
                    have h1 := WH.out
                    rw [show askB q = [92, u] from by rw [← HUE.out.1]; exact if_neg hq0] at h1
                    refine ⟨h1.1, h1.2.1, ?_⟩
                    rw [h1.2.2, upd2_stf, HRR.out]
                    simp)
                  have ad1 := fun W => add_B t [92, u] (by have := HR.out; simp; omega) W
                  have ad2 := fun W => add_B (t ++ [92, u]) t (by have := HR.out; simp; omega) W
                  have ad3 := fun W => add_B ((t ++ [92, u]) ++ t) [92, u] (by have := HR.out; simp; omega) W
                  have eq7 : (B t ++ (⟨#[]⟩ : ByteArray) ++ B t ++ (⟨#[]⟩ : ByteArray)).toList = t ++ t := by rw [show (⟨#[]⟩ : ByteArray) = B [] from rfl, B_app, B_app, B_app, Lib.toList_data, list_B]; simp
                  have htl : t.length ≤ 100 := by have := HR.out; omega
                  have CP := Lib.hid (fun W => parse_is (((t ++ [92, u]) ++ t) ++ [92, u]) W (by have := HR.out; simp; omega))
                  clear WH AQ
                  go_wp2_with (first | (refine wpList_allocSp rfl rfl ?_; intro w2 hs2 ha2 hb2; have c2 := (hb2.cell (p := ⟨w.heap.size + 1, 0, none⟩) (by have := HW.out.2.2; show w.heap.size + 1 < _; omega)).trans c0; have c3 := (hb2.cell (p := ⟨w.heap.size + 1, 1, none⟩) (by have := HW.out.2.2; show w.heap.size + 1 < _; omega)).trans c1) | (refine wpList_storeP rfl _ _ rfl _ q x y rfl rfl no0 ha2 hq10 ?_; intro w3 hs3 ha3 hb3; have HU := Lib.hid (hb2.trans hb3); have c4 := (hb3.cell (p := ⟨w.heap.size + 1, 0, none⟩) (by have := HW.out.2.2; show w.heap.size + 1 < _; omega)).trans c2; have c5 := (hb3.cell (p := ⟨w.heap.size + 1, 1, none⟩) (by have := HW.out.2.2; show w.heap.size + 1 < _; omega)).trans c3) | (refine wpList_bytes1 rfl _ rfl u _ (by have := HUE.out.2; omega) rfl ?_; intro w4 hs4 hb4 hcv; rw [hs3, hs2] at hcv; have c6 := (hb4.cell (p := ⟨w.heap.size + 1, 0, none⟩) (by have := HW.out.2.2; have := hb2.size; show w.heap.size + 1 < _; omega)).trans c4; have c7 := (hb4.cell (p := ⟨w.heap.size + 1, 1, none⟩) (by have := HW.out.2.2; have := hb2.size; show w.heap.size + 1 < _; omega)).trans c5))
                  have hp4 : Sp w4 wr.heap.size (upd2 no0 q x y) := At.keep ha3 hb4 (by have := hb2.size; omega)
                  have H4 := Lib.hid (HW.out.1.trans ((hb2.trans (hb3.trans (hb4.mono (by omega)))).mono HW.out.1.size))
                  clear c0 c1 c2 c3 c4 c5 c6 c7 ha2 ha3 hb2 hb3 hb4 hcv ad1 ad2 ad3 ad HU
                  go_at_call 9
                  refine (CP.out _).mono ?_
                  rintro e w5 ⟨hs5, hb5⟩
                  obtain ⟨v, ps, rfl, hT, hX, hM, hL⟩ := hs5.1 RX.out.1
                  have hp5 : Sp w5 wr.heap.size (upd2 no0 q x y) := At.keep hp4 hb5 (At.lt hp4)
                  have H5 := Lib.hid (H4.out.trans (hb5.mono H4.out.size))
                  have hle : ps.length ≤ 1000000 := by have := HR.out; simp at hL; omega
                  have CE := Lib.hid (expand_is v ps s (upd2 no0 q x y) w5 hle (by have := HM.out; omega) (by rw [hX, RX.out.2.2]; have := HR.out; simp; omega) hT)
                  rw [hX, RX.out.2.2] at CE
                  rw [RX.out.2.1] at hM
                  have HT := Lib.hid (And.intro hT (And.intro hM hle))
                  clear hs5 hb5 hp4 hT hX hM hL hle CP
                  go_wp2_with (refine wpList_loadSpM rfl _ rfl _ rfl _ hp5 ?_)
                  go_at_call 12
                  refine CE.out.mono ?_
                  rintro e w6 ⟨rfl, hb6⟩
                  have H6 := Lib.hid (H5.out.trans (hb6.mono H5.out.size))
                  have CM := Lib.hid (most_is v ps w6 HT.out.2.2 (HT.out.1.below hb6))
                  rw [HT.out.2.1] at CM
                  clear hb6 hp5 CE
                  go_wp2_with fail
                  go_at_call 11
                  refine CM.out.mono ?_
                  rintro e w7 ⟨rfl, hw7⟩
                  rw [hw7]
                  clear hw7
                  go_wp2_with fail
                  go_at_call 13
                  refine (CD.out _).mono ?_
                  rintro e w8 ⟨rfl, hb8⟩
                  go_wp2
                  go_ret
                  exact ⟨rfl, H6.out.trans (hb8.mono H6.out.size)⟩
                · have q3 : decide (y ≤ (m : Int)) = true := decide_eq_true (by omega)
                  rw [if_neg (by omega)] at hR
                  have sl := fun W => slice_mid s x.toNat y.toNat x y (by omega) (by omega) (by omega) (by rw [HM.out]; omega) W
                  rw [hR] at sl
                  clear hR
                  have RX : Hid (ok (((t ++ [92, u]) ++ t) ++ [92, u]) = true ∧ mo (((t ++ [92, u]) ++ t) ++ [92, u]) = q ∧ ex (stf (upd2 no0 q x y) s) (((t ++ [92, u]) ++ t) ++ [92, u]) = (((t ++ R) ++ t) ++ R)) := Lib.hid (by
                    have h1 := WH.out
                    rw [show askB q = [92, u] from by rw [← HUE.out.1]; exact if_neg hq0] at h1
                    refine ⟨h1.1, h1.2.1, ?_⟩
                    rw [h1.2.2, upd2_stf, HRR.out])
                  have ad1 := fun W => add_B t [92, u] (by have := HR.out; simp; omega) W
                  have ad2 := fun W => add_B (t ++ [92, u]) t (by have := HR.out; simp; omega) W
                  have ad3 := fun W => add_B ((t ++ [92, u]) ++ t) [92, u] (by have := HR.out; simp; omega) W
                  have eq7 : (B t ++ B R ++ B t ++ B R).toList = ((t ++ R) ++ t) ++ R := by rw [B_app, B_app, B_app, Lib.toList_data, list_B]
                  have htl : t.length ≤ 100 := by have := HR.out; omega
                  have hrl : R.length ≤ 1000 := HRL.out
                  have CP := Lib.hid (fun W => parse_is (((t ++ [92, u]) ++ t) ++ [92, u]) W (by have := HR.out; simp; omega))
                  clear WH AQ
                  go_wp2_with (first | (refine wpList_allocSp rfl rfl ?_; intro w2 hs2 ha2 hb2; have c2 := (hb2.cell (p := ⟨w.heap.size + 1, 0, none⟩) (by have := HW.out.2.2; show w.heap.size + 1 < _; omega)).trans c0; have c3 := (hb2.cell (p := ⟨w.heap.size + 1, 1, none⟩) (by have := HW.out.2.2; show w.heap.size + 1 < _; omega)).trans c1) | (refine wpList_storeP rfl _ _ rfl _ q x y rfl rfl no0 ha2 hq10 ?_; intro w3 hs3 ha3 hb3; have HU := Lib.hid (hb2.trans hb3); have c4 := (hb3.cell (p := ⟨w.heap.size + 1, 0, none⟩) (by have := HW.out.2.2; show w.heap.size + 1 < _; omega)).trans c2; have c5 := (hb3.cell (p := ⟨w.heap.size + 1, 1, none⟩) (by have := HW.out.2.2; show w.heap.size + 1 < _; omega)).trans c3) | (refine wpList_bytes1 rfl _ rfl u _ (by have := HUE.out.2; omega) rfl ?_; intro w4 hs4 hb4 hcv; rw [hs3, hs2] at hcv; have c6 := (hb4.cell (p := ⟨w.heap.size + 1, 0, none⟩) (by have := HW.out.2.2; have := hb2.size; show w.heap.size + 1 < _; omega)).trans c4; have c7 := (hb4.cell (p := ⟨w.heap.size + 1, 1, none⟩) (by have := HW.out.2.2; have := hb2.size; show w.heap.size + 1 < _; omega)).trans c5))
                  have hp4 : Sp w4 wr.heap.size (upd2 no0 q x y) := At.keep ha3 hb4 (by have := hb2.size; omega)
                  have H4 := Lib.hid (HW.out.1.trans ((hb2.trans (hb3.trans (hb4.mono (by omega)))).mono HW.out.1.size))
                  clear c0 c1 c2 c3 c4 c5 c6 c7 ha2 ha3 hb2 hb3 hb4 hcv ad1 ad2 ad3 ad HU
                  go_at_call 9
                  refine (CP.out _).mono ?_
                  rintro e w5 ⟨hs5, hb5⟩
                  obtain ⟨v, ps, rfl, hT, hX, hM, hL⟩ := hs5.1 RX.out.1
                  have hp5 : Sp w5 wr.heap.size (upd2 no0 q x y) := At.keep hp4 hb5 (At.lt hp4)
                  have H5 := Lib.hid (H4.out.trans (hb5.mono H4.out.size))
                  have hle : ps.length ≤ 1000000 := by have := HR.out; simp at hL; omega
                  have CE := Lib.hid (expand_is v ps s (upd2 no0 q x y) w5 hle (by have := HM.out; omega) (by rw [hX, RX.out.2.2]; have := HR.out; have := HRL.out; simp; omega) hT)
                  rw [hX, RX.out.2.2] at CE
                  rw [RX.out.2.1] at hM
                  have HT := Lib.hid (And.intro hT (And.intro hM hle))
                  clear hs5 hb5 hp4 hT hX hM hL hle CP
                  go_wp2_with (refine wpList_loadSpM rfl _ rfl _ rfl _ hp5 ?_)
                  go_at_call 12
                  refine CE.out.mono ?_
                  rintro e w6 ⟨rfl, hb6⟩
                  have H6 := Lib.hid (H5.out.trans (hb6.mono H5.out.size))
                  have CM := Lib.hid (most_is v ps w6 HT.out.2.2 (HT.out.1.below hb6))
                  rw [HT.out.2.1] at CM
                  clear hb6 hp5 CE
                  go_wp2_with fail
                  go_at_call 11
                  refine CM.out.mono ?_
                  rintro e w7 ⟨rfl, hw7⟩
                  rw [hw7]
                  clear hw7
                  go_wp2_with fail
                  go_at_call 13
                  refine (CD.out _).mono ?_
                  rintro e w8 ⟨rfl, hb8⟩
                  go_wp2
                  go_ret
                  exact ⟨rfl, H6.out.trans (hb8.mono H6.out.size)⟩
theorem law7L (s t : ByteArray) (n : Nat) (x y : Int) (w : World) (hn : n < 256) (hs : s.size ≤ maxLen) (ht : t.size ≤ maxLen) :
    Calls Try.prog 7 #[.agg #[.string s, .string t], .int .u8 (n : Int), .agg #[.int .i64 x, .int .i64 y]] w fun e w' => e = .returned (.bool true) ∧ Below w.heap.size w w' := by
  have := law7 s.data.toList t.data.toList n x y w hn (by rw [Array.length_toList]; exact hs) (by rw [Array.length_toList]; exact ht)
  rwa [B_list, B_list] at this
end Go.Proofs.Ytibflbepnlemmaa.tpl
