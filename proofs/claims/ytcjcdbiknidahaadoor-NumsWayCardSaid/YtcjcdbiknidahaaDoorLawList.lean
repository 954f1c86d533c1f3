/- The law NumsList, walked: for every text and place it is true, and nothing that was there has turned. -/
import Derived.Test.YtcjcdbiknidahaaDoorDoes
namespace Go.Proofs.YtcjcdbiknidahaaDoor
open Go.RowKit Go.Lib

/-- What a list in memory of its own is, or nothing. -/
theorem ListSays.some {l : List UInt8} {a : Int} {w W' : World} {e : Ending} {ts : List (List UInt8)} (h : ListSays l a w e W') (hs : atL l a = some ts) :
    ∃ A c, e = .returned (.tuple #[.slice A ts.length c, .int .i64 (a + (putL ts).length), .bool true]) ∧ W'.ownsRow w.heap.size 9 1 (.slice A ts.length c) ts.length (strs' ts) ∧ SRd W' W'.heap.size A (ts.map B) ∧ Below w.heap.size w W' := by
  obtain ⟨hB, h⟩ := h
  rw [hs] at h
  obtain ⟨A, c, he, ho, hr⟩ := h
  exact ⟨A, c, he, ho, hr, hB⟩
theorem ListSays.none {l : List UInt8} {a : Int} {w W' : World} {e : Ending} (h : ListSays l a w e W') (hs : atL l a = none) :
    e = .returned (.tuple #[.slice none 0 0, .int .i64 0, .bool false]) ∧ Below w.heap.size w W' := by
  obtain ⟨hB, h⟩ := h
  rw [hs] at h
  exact ⟨h, hB⟩
theorem atL_short {l : List UInt8} {a : Int} {ts : List (List UInt8)} (h : atL l a = some ts) : 2 * ts.length ≤ l.length := by
  unfold atL at h
  split at h
  · obtain ⟨_, _, r, hr⟩ := getL_iff.1 h
    have := congrArg List.length hr
    rw [List.length_append, List.length_drop] at this
    have key : ∀ (ys : List (List UInt8)), 2 * ys.length ≤ (ys.flatMap putT).length := by
      intro ys
      induction ys with
      | nil => simp
      | cons y r ih =>
        have h2 : 2 ≤ (putT y).length := by unfold putT; rw [List.length_append]; have := putN_len2 y.length; omega
        rw [List.flatMap_cons, List.length_append, List.length_cons]; omega
    have h1 := key ts
    unfold putL at this
    rw [List.length_append] at this
    omega
  · cases h

set_option maxHeartbeats 4000000 in
set_option maxRecDepth 100000 in
theorem law5 (s : ByteArray) (a : Int) (w : World) (hs : s.size ≤ 140737488351232) (hV : Vars w.heap.size w) :
    Calls Tryd.prog 5 #[.string s, .int .i64 a] w fun e w' => e = .returned (.bool true) ∧ Below w.heap.size w w' := by
  by_cases hbig : 5000 < s.size
  · go_enter Tryd.func5, Tryd.ntmps5
    go_wp2
    go_ret
    exact ⟨rfl, Below.refl _ _⟩
  · have G := Lib.hid (fun W hW => getList24 s a W (by omega) hW)
    have R := Lib.hid (fun W => refGetList25 s a W (by omega))
    rcases hL : atL s.data.toList a with _ | ts
    · have HL := Lib.hid hL
      clear hL
      go_enter Tryd.func5, Tryd.ntmps5
      go_wp2_with fail
      go_at_call 24
      refine (G.out w hV).mono ?_
      intro e w1 h1
      obtain ⟨rfl, HB1⟩ := h1.none HL.out
      have V1 := hV.next HB1
      have hz1 := HB1.size
      clear hV h1
      go_wp2_with fail
      go_at_call 25
      refine (R.out w1).mono ?_
      intro e w2 h2
      obtain ⟨rfl, hB2⟩ := h2.none HL.out
      have V2 := V1.next hB2
      have HB2 := HB1.trans (hB2.mono hz1)
      have hz2 := HB2.size
      clear V1 hB2 HB1 h2
      go_wp2_with fail
      go_at_call 26
      refine (same26_b none none 0 0 0 0 [] [] w2 true rfl rfl (by omega) (by omega) (by simp) SRd.nil SRd.nil).mono ?_
      rintro e w3 ⟨rfl, hB3⟩
      have V3 := V2.next hB3
      have HB3 := HB2.trans (hB3.mono hz2)
      have hz3 := HB3.size
      clear V2 hB3 HB2
      go_wp2_with fail
      go_loopg [11] 0 (fun g v11 wr => v11 = .int .i64 0 ∧ wr = w3)
      case atStart => exact ⟨rfl, rfl⟩
      case round =>
        obtain ⟨rfl, rfl⟩ := hrel
        go_wp2_with fail
        go_at_call 24
        refine (G.out wr V3).mono ?_
        intro e w4 h4
        obtain ⟨rfl, hB4⟩ := h4.none HL.out
        have V4 := V3.next hB4
        have HB4 := HB3.trans (hB4.mono hz3)
        have hz4 := HB4.size
        clear V3 hB4 HB3 h4
        go_wp2_with fail
        go_at_call 26
        refine (same26_b none none 0 0 0 0 [] [] w4 true rfl rfl (by omega) (by omega) (by simp) SRd.nil SRd.nil).mono ?_
        rintro e w5 ⟨rfl, hB5⟩
        have V5 := V4.next hB5
        have HB5 := HB4.trans (hB5.mono hz4)
        have hz5 := HB5.size
        clear V4 hB5 HB4
        go_wp2_with fail
        go_at_call 19
        refine (does19 w5 V5).mono ?_
        rintro e w6 ⟨rfl, hB6⟩
        have HB6 := HB5.trans (hB6.mono hz5)
        clear V5 hB6 HB5
        go_wp2
        go_ret
        exact ⟨rfl, HB6⟩
    · have HL := Lib.hid hL
      have hsh : ts.length ≤ 2500 := by have := atL_short hL; rw [size_list] at this; omega
      obtain ⟨n, hn⟩ : ∃ n, n = ts.length := ⟨_, rfl⟩
      have SN : Hid (n = (ts.map B).length) := Lib.hid (by rw [List.length_map]; exact hn)
      have HK := Lib.hid (fun e W W' (h : ListSays s.data.toList a W e W') => h.some hL)
      rw [← hn] at HK hsh
      generalize hq : a + ((putL ts).length : Int) = q at HK
      have HQ := Lib.hid hq
      clear hL hn hq
      go_enter Tryd.func5, Tryd.ntmps5
      go_wp2_with fail
      go_at_call 24
      refine (G.out w hV).mono ?_
      intro e w1 h1
      obtain ⟨A1, c1, rfl, hO1, hR1, HB1⟩ := HK.out _ _ _ h1
      have hz1 := HB1.size
      clear h1
      go_wp2_with fail
      go_at_call 25
      refine (R.out w1).mono ?_
      intro e w2 h2
      obtain ⟨A2, c2, rfl, hO2, hR2, hB2⟩ := HK.out _ _ _ h2
      have HB2 := HB1.trans (hB2.mono hz1)
      have hz2 := HB2.size
      have hO1' := own_below hO1 hB2
      have HL1 := Lib.hid hO1.lt
      have HL2 := Lib.hid hO2.lt
      have p1 := (hR1.below hB2).more hB2.size
      clear h2 hO1 hR1 HB1 hB2
      go_wp2_with fail
      go_at_call 26
      refine (same26_b _ _ c1 c2 n n (ts.map B) (ts.map B) w2 true SN.out SN.out (by omega) (by omega) (by simp) p1 hR2).mono ?_
      rintro e w3 ⟨rfl, hB3⟩
      have HB3 := HB2.trans (hB3.mono hz2)
      have hz3 := HB3.size
      have k1 := own_below hO1' hB3
      have k2 := own_below hO2 hB3
      clear p1 hR2 HB2 hB3 hO1' hO2
      go_wp2_with fail
      go_loopg [11] n (fun g s7 wr => ∃ (k : Nat) (us : List Value), k ≤ n ∧ n - k ≤ g ∧ s7 = .int .i64 k ∧ wr.ownsRow w.heap.size 9 1 (.slice A1 n c1) n us ∧ wr.ownsRow w1.heap.size 9 1 (.slice A2 n c2) n (strs' ts) ∧ Below w.heap.size w wr)
      case atStart => exact ⟨0, _, Nat.zero_le _, by omega, rfl, k1, k2, HB3⟩
      case round =>
        obtain ⟨k, us, hk, hg, rfl, ho1, ho2, hBr⟩ := hrel
        by_cases hlt : k < n
        · obtain ⟨g, cap, hv, hgb, hgl⟩ := ho1.form (by omega)
          obtain ⟨hA, _, rfl⟩ : A1 = some ⟨g, 0, none⟩ ∧ n = n ∧ c1 = cap := by injection hv with h1 h2 h3; exact ⟨h1, h2, h3⟩
          subst hA
          have hus : k < us.length := by rw [ho1.1]; omega
          have hcell := ho1.cellAt k (by omega)
          rw [List.getElem?_eq_getElem hus] at hcell
          have hfr := ho1.frozenAt k
          have hst := ho1.stored k (.string ⟨#[63]⟩)
          have hne : Value.ownBlock (.slice A2 n c2) = none ∨ Value.ownBlock (.slice A2 n c2) ≠ some g := by
            right
            intro e
            have a1 := (HL1.out g rfl).2
            have a2 := (HL2.out g e).1
            omega
          have h2' := Lib.hid (ho2.kept hst.2 hne)
          have h1' := Lib.hid hst.1
          have hB' := Lib.hid (hBr.setCell (p := ⟨g, k, none⟩) hgb (.string ⟨#[63]⟩))
          clear hst hne hv
          go_wp2
          go_roundg (n - (k + 1))
          case measure => omega
          case rel => exact ⟨k + 1, _, by omega, by omega, by go_num, h1'.out, h2'.out, hB'.out⟩
        · have hkn : k = n := by omega
          subst hkn
          have hzr := hBr.size
          have r2 : SRd wr wr.heap.size A2 (ts.map B) := SRd.of_row (zs := ts.map B) (more := []) (m := k) (c := c2) (base := w1.heap.size) (by rw [List.append_nil]; exact SN.out) (by simpa [strs'] using ho2)
          clear k1 k2 HB3 ho1 ho2
          go_wp2_with fail
          go_at_call 24
          refine (G.out wr ((hV.below hBr).more hzr)).mono ?_
          intro e w4 h4
          obtain ⟨A3, c3, rfl, _, hR3, hB4⟩ := HK.out _ _ _ h4
          have r3 := (r2.below hB4).more hB4.size
          have HB4 := hBr.trans (hB4.mono hzr)
          have hz4 := HB4.size
          clear h4 r2 hBr hB4
          go_wp2_with fail
          go_at_call 26
          refine (same26_b _ _ c3 c2 _ _ (ts.map B) (ts.map B) w4 true SN.out SN.out (by omega) (by omega) (by simp) hR3 r3).mono ?_
          rintro e w5 ⟨rfl, hB5⟩
          have HB5 := HB4.trans (hB5.mono hz4)
          have hz5 := HB5.size
          clear hR3 r3 HB4 hB5
          go_wp2_with fail
          go_at_call 19
          refine (does19 w5 ((hV.below HB5).more hz5)).mono ?_
          rintro e w6 ⟨rfl, hB6⟩
          have HB6 := HB5.trans (hB6.mono hz5)
          clear HB5 hB6
          go_wp2
          go_ret
          exact ⟨rfl, HB6⟩
end Go.Proofs.YtcjcdbiknidahaaDoor
