/- The law LinesBack, walked: for every list of texts and every text it is true, and nothing that was there has turned. -/
import Derived.Test.YtgiffkpneloghaaLawJoin
namespace Go.Proofs.Ytgiffkpneloghaa
open Go.RowKit Go.Shelf Go.Lib

theorem bytesOf_texts (L : List (List UInt8 × Bool)) : bytesOf (texts L) = L.map (·.1) := by
  simp [bytesOf, texts]
theorem join_ended : ∀ (L : List (List UInt8 × Bool)), (∀ x ∈ L, x.2 = true) → joinL (L.map (·.1)) = L.flatMap (fun x => x.1 ++ if x.2 then [10] else [])
  | [], _ => rfl
  | x :: r, h => by
    have h1 := h x (by simp)
    have ih := join_ended r (fun y hy => h y (by simp [hy]))
    simp only [List.map_cons, joinL, List.flatMap_cons, ih, h1, if_true]
    simp

/-- A text that has an end is its lines joined. -/
theorem join_back {t : List UInt8} (h : last (lns t) = true) : joinL (bytesOf (texts (lns t))) = t := by
  rw [bytesOf_texts, join_ended]
  · exact lns_text t
  · intro x hx
    rcases List.eq_nil_or_concat (lns t) with he | ⟨L, y, he⟩
    · rw [he] at hx; cases hx
    · rw [he] at hx h
      have hd := lns_ended (t := t)
      rw [he, List.concat_eq_append, List.dropLast_concat] at hd
      simp only [List.concat_eq_append, List.mem_append, List.mem_singleton] at hx
      rcases hx with hx | rfl
      · exact hd x hx
      · simpa [last] using h
/-- A text that lacks an end is its lines joined, but for the last end. -/
theorem join_back_lacks {t : List UInt8} (h : last (lns t) = false) : joinL (bytesOf (texts (lns t))) = t ++ [10] := by
  rcases List.eq_nil_or_concat (lns t) with he | ⟨L, y, he⟩
  · rw [he] at h; simp [last] at h
  · have hd := lns_ended (t := t)
    have ht := lns_text t
    rw [he, List.concat_eq_append] at h hd ht
    rw [List.dropLast_concat] at hd
    have hy : y.2 = false := by simpa [last] using h
    rw [bytesOf_texts, he, List.concat_eq_append, List.map_append, List.map_cons, List.map_nil, joinL_snoc, join_ended L hd]
    rw [List.flatMap_append] at ht
    simp only [List.flatMap_cons, List.flatMap_nil, hy] at ht
    rw [← ht]
    simp

/-- What clean lines are joined to is split into them. -/
theorem split_join {zs zk : List ByteArray} {n : Nat} {b : Bool} (h : SplitSays (B (joinL (bytesOf zs))) n zk b) (hc : zs.any nl = false) : zk = zs ∧ b = true := by
  have hl : lns (joinL (bytesOf zs)) = (bytesOf zs).map fun x => (x, true) := lns_join _ (fun x hx => by
    obtain ⟨z, hz, rfl⟩ := List.mem_map.1 hx
    intro hm
    have := List.any_eq_false.1 hc z hz
    exact this ((nl_iff z).2 hm))
  refine ⟨?_, ?_⟩
  · rw [h.2.1, list_B, hl, texts_all]
    unfold bytesOf
    rw [List.map_map]
    conv => rhs; rw [← List.map_id zs]
    exact List.map_congr_left fun z _ => B_list z
  · rw [h.2.2.1, list_B, hl, last_all]

set_option maxHeartbeats 2000000 in
set_option maxRecDepth 100000 in
theorem law6 (A : Option Addr) (c n : Nat) (zs : List ByteArray) (s : ByteArray) (w : World) (hn : n = zs.length) (hn63 : n ≤ maxLen)
    (hz : ∀ z ∈ zs, z.size ≤ maxLen) (h1 : SRd w w.heap.size A zs) (hs : s.size ≤ maxLen) :
    Calls Try.prog 6 #[.slice A n c, .string s] w fun e w' => e = .returned (.bool true) ∧ Below w.heap.size w w' := by
  have C1 := Lib.hid (great A c w.heap.size n 1000 20000 zs w hn (by unfold maxLen at hn63; omega) (by omega) (by omega) hz h1)
  have h63 : s.size ≤ 9223372036854775807 := by unfold maxLen at hs; omega
  have HN := Lib.hid hn
  clear hn hz hn63 hs
  by_cases hbig : 20000 < s.size
  · go_enter Try.func6, Try.ntmps6
    go_wp2_with fail
    go_at_call 14
    refine C1.out.mono ?_
    rintro e w' ⟨(rfl | ⟨rfl, g1, g2⟩), rfl⟩
    all_goals
      go_wp2
      go_ret
      exact ⟨rfl, Below.refl _ _⟩
  · go_enter Try.func6, Try.ntmps6
    go_wp2_with fail
    go_at_call 14
    refine C1.out.mono ?_
    rintro e w' ⟨(rfl | ⟨rfl, g1, g2⟩), rfl⟩
    · go_wp2
      go_ret
      exact ⟨rfl, Below.refl _ _⟩
    · have l1 : n ≤ 1000 := by rw [HN.out]; exact g1
      clear C1 g1
      go_wp2_with fail
      go_at_call 10
      refine (split_s s (by omega) _).mono ?_
      rintro e w1 ⟨A1, c1, m, z1, b, rfl, hS1, _, hR1, hB1⟩
      have hm : m ≤ 20000 := by have := hS1.2.2.2; omega
      have hz1 := hB1.size
      have p1 := (h1.below hB1).more hz1
      have S1 := Lib.hid hS1
      have hJ : Hid ((joinL (bytesOf z1)).length ≤ 20001) := Lib.hid (by
        rw [hS1.2.1]
        cases hb : last (lns s.data.toList)
        · rw [join_back_lacks hb, List.length_append, size_list]; simp; omega
        · rw [join_back hb, size_list]; omega)
      have hT : tot z1 ≤ 1000000 := by have := hJ.out; rw [join_len] at this; omega
      clear h1 hS1
      go_wp2_with fail
      go_at_call 16
      refine (join16 _ c1 m z1 w1 S1.out.1 (by omega) hT hR1).mono ?_
      cases b
      · have hq : Hid (B (joinL (bytesOf z1)) = s ++ ⟨#[10]⟩) := Lib.hid (by
          rw [S1.out.2.1, join_back_lacks S1.out.2.2.1.symm, ← B_list (s ++ ⟨#[10]⟩), append_list])
        rw [hq.out]
        rintro e w2 ⟨rfl, hB2⟩
        obtain ⟨q, hq2⟩ : ∃ q, q = s ++ (⟨#[10]⟩ : ByteArray) := ⟨_, rfl⟩
        rw [← hq2]
        have hqs : q.size = s.size + 1 := by rw [hq2, ByteArray.size_append]; rfl
        have hql : q.data.toList = s.data.toList ++ [10] := by rw [hq2, append_list]
        have hlt : s.size < q.size := by omega
        have hlast : q[s.size] = 10 := by
          have : q.data.toList[s.size]? = some 10 := by rw [hql, List.getElem?_append_right (by rw [size_list]; exact Nat.le_refl _), size_list]; simp
          have h2 : q.data.toList[s.size]? = some q[s.size] := by rw [List.getElem?_eq_getElem (by rw [size_list]; exact hlt)]; rfl
          rw [h2] at this; exact Option.some.inj this
        have hI : ((q[s.size].toNat : Int) != 10) = false := by rw [hlast]; rfl
        have hEX : q.extract 0 s.size = s := by
          rw [extract_B, hql]
          simp only [List.drop_zero, Nat.sub_zero]
          rw [List.take_left' (size_list s), B_list]
        have hsub : (q.size : Int) - 1 = (s.size : Int) := by omega
        have hne : q.toList.isEmpty = false := by rw [Lib.toList_data, hql]; simp
        have HQ := Lib.hid hq2
        clear hqs hql hlast hq2 hq
        have hz2 := hB2.size
        have q1 := (p1.below hB2).more hz2
        have HB2 := hB1.trans (hB2.mono hz1)
        have hn4 : Hid ((B (joinL (bytesOf zs))).size ≤ 100000) := Lib.hid (by rw [B_size, join_len, ← HN.out]; omega)
        clear p1 hB1 hB2 hR1
        go_wp2_with fail
        go_at_call 16
        refine (join16 _ c n zs w2 HN.out (by omega) (by omega) q1).mono ?_
        rintro e w3 ⟨rfl, hB3⟩
        have hz3 := hB3.size
        have p1 := (q1.below hB3).more hz3
        have HB3 := HB2.trans (hB3.mono (by omega))
        clear q1 HB2 hB3
        go_wp2_with fail
        go_at_call 10
        refine (split_s (B (joinL (bytesOf zs))) hn4.out w3).mono ?_
        rintro e w4 ⟨A4, c4, n4, z4, b4, rfl, hS4, _, hR4, hB4⟩
        have hn5 : n4 ≤ 100000 := by have := hS4.2.2.2; have := hn4.out; omega
        have hz4 := hB4.size
        have q1 := (p1.below hB4).more hz4
        have HB4 := HB3.trans (hB4.mono (by omega))
        have S4 := Lib.hid hS4
        clear p1 HB3 hB4 hS4
        cases hnl : zs.any nl
        · obtain ⟨e1, e2⟩ := split_join S4.out hnl
          subst e2
          have E1 := Lib.hid e1
          have NN := Lib.hid hnl
          clear e1 hnl
          have hchk : chk zs = 0 ∨ chk zs = 3 := by
            unfold chk
            rw [NN.out, if_neg (by simp)]
            split
            · exact .inr rfl
            · exact .inl rfl
          rcases hchk with hk | hk
          all_goals
            have HK := Lib.hid hk
            clear hk
            go_wp2_with fail
            go_at_call 18
            refine (check18_b _ c n zs w4 _ HN.out (by omega) HK.out q1).mono ?_
            rintro e w5 ⟨rfl, hB5⟩
            have hz5 := hB5.size
            have p1 := (q1.below hB5).more hz5
            have p4 := (hR4.below hB5).more hz5
            have HB5 := HB4.trans (hB5.mono (by omega))
            clear q1 HB4 hB5 hR4
            go_wp2_with fail
            go_at_call 12
            refine (same12_b _ _ c4 c n4 n z4 zs w5 true S4.out.1 HN.out hn5 (by omega) (by rw [E1.out]; simp) p4 p1).mono ?_
            rintro e w6 ⟨rfl, hB6⟩
            have hz6 := hB6.size
            have HB6 := HB5.trans (hB6.mono (by omega))
            clear p1 p4 HB5 hB6
            go_wp2_with fail
            go_at_call 13
            refine (does13 w6).mono ?_
            rintro e w7 ⟨rfl, hB7⟩
            have HB7 := HB6.trans (hB7.mono (by omega))
            clear HB6 hB7
            go_wp2
            go_ret
            exact ⟨rfl, HB7⟩
        · have HK : Hid (chk zs = 2) := Lib.hid (by unfold chk; rw [hnl, if_pos rfl])
          clear hnl
          go_wp2_with fail
          go_at_call 18
          refine (check18_b _ c n zs w4 _ HN.out (by omega) HK.out q1).mono ?_
          rintro e w5 ⟨rfl, hB5⟩
          have hz5 := hB5.size
          have HB5 := HB4.trans (hB5.mono (by omega))
          clear q1 HB4 hB5 hR4
          go_wp2_with fail
          go_at_call 13
          refine (does13 w5).mono ?_
          rintro e w7 ⟨rfl, hB7⟩
          have HB7 := HB5.trans (hB7.mono (by omega))
          clear HB5 hB7
          go_wp2
          go_ret
          exact ⟨rfl, HB7⟩
      · have hq : Hid (B (joinL (bytesOf z1)) = s) := Lib.hid (by rw [S1.out.2.1, join_back S1.out.2.2.1.symm, B_list])
        rw [hq.out]
        rintro e w2 ⟨rfl, hB2⟩
        have hz2 := hB2.size
        have q1 := (p1.below hB2).more hz2
        have HB2 := hB1.trans (hB2.mono hz1)
        have hn4 : Hid ((B (joinL (bytesOf zs))).size ≤ 100000) := Lib.hid (by rw [B_size, join_len, ← HN.out]; omega)
        clear p1 hB1 hB2 hR1
        go_wp2_with fail
        go_at_call 16
        refine (join16 _ c n zs w2 HN.out (by omega) (by omega) q1).mono ?_
        rintro e w3 ⟨rfl, hB3⟩
        have hz3 := hB3.size
        have p1 := (q1.below hB3).more hz3
        have HB3 := HB2.trans (hB3.mono (by omega))
        clear q1 HB2 hB3
        go_wp2_with fail
        go_at_call 10
        refine (split_s (B (joinL (bytesOf zs))) hn4.out w3).mono ?_
        rintro e w4 ⟨A4, c4, n4, z4, b4, rfl, hS4, _, hR4, hB4⟩
        have hn5 : n4 ≤ 100000 := by have := hS4.2.2.2; have := hn4.out; omega
        have hz4 := hB4.size
        have q1 := (p1.below hB4).more hz4
        have HB4 := HB3.trans (hB4.mono (by omega))
        have S4 := Lib.hid hS4
        clear p1 HB3 hB4 hS4
        cases hnl : zs.any nl
        · obtain ⟨e1, e2⟩ := split_join S4.out hnl
          subst e2
          have E1 := Lib.hid e1
          have NN := Lib.hid hnl
          clear e1 hnl
          have hchk : chk zs = 0 ∨ chk zs = 3 := by
            unfold chk
            rw [NN.out, if_neg (by simp)]
            split
            · exact .inr rfl
            · exact .inl rfl
          rcases hchk with hk | hk
          all_goals
            have HK := Lib.hid hk
            clear hk
            go_wp2_with fail
            go_at_call 18
            refine (check18_b _ c n zs w4 _ HN.out (by omega) HK.out q1).mono ?_
            rintro e w5 ⟨rfl, hB5⟩
            have hz5 := hB5.size
            have p1 := (q1.below hB5).more hz5
            have p4 := (hR4.below hB5).more hz5
            have HB5 := HB4.trans (hB5.mono (by omega))
            clear q1 HB4 hB5 hR4
            go_wp2_with fail
            go_at_call 12
            refine (same12_b _ _ c4 c n4 n z4 zs w5 true S4.out.1 HN.out hn5 (by omega) (by rw [E1.out]; simp) p4 p1).mono ?_
            rintro e w6 ⟨rfl, hB6⟩
            have hz6 := hB6.size
            have HB6 := HB5.trans (hB6.mono (by omega))
            clear p1 p4 HB5 hB6
            go_wp2_with fail
            go_at_call 13
            refine (does13 w6).mono ?_
            rintro e w7 ⟨rfl, hB7⟩
            have HB7 := HB6.trans (hB7.mono (by omega))
            clear HB6 hB7
            go_wp2
            go_ret
            exact ⟨rfl, HB7⟩
        · have HK : Hid (chk zs = 2) := Lib.hid (by unfold chk; rw [hnl, if_pos rfl])
          clear hnl
          go_wp2_with fail
          go_at_call 18
          refine (check18_b _ c n zs w4 _ HN.out (by omega) HK.out q1).mono ?_
          rintro e w5 ⟨rfl, hB5⟩
          have hz5 := hB5.size
          have HB5 := HB4.trans (hB5.mono (by omega))
          clear q1 HB4 hB5 hR4
          go_wp2_with fail
          go_at_call 13
          refine (does13 w5).mono ?_
          rintro e w7 ⟨rfl, hB7⟩
          have HB7 := HB5.trans (hB7.mono (by omega))
          clear HB5 hB7
          go_wp2
          go_ret
          exact ⟨rfl, HB7⟩
end Go.Proofs.Ytgiffkpneloghaa
