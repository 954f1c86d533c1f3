/- SplicesBack, walked. -/
import Derived.Test.YtakckmelojobkaaDoorSplCuts
namespace Go.Proofs.YtakckmelojobkaaDoor.sps
open Go.RowKit Go.Lib pce
set_option linter.unusedVariables false
set_option linter.unusedSimpArgs false
set_option linter.unnecessarySimpa false
set_option linter.unusedSectionVars false

/-- Lines, and splices that lead from them to others: how they lie. -/
structure Way (w W : World) (Aw : Option Addr) (nw cw : Nat) (L : List ByteArray) (Bk : Option Addr) (nb cb : Nat) (us : List Ct) (M : List ByteArray) : Prop where
  below : Below w.heap.size w W
  fine : Fine L
  now : Lst W (fun _ => True) Aw nw cw L
  len : nb = us.length
  nil : Bk = none → cb = 0
  cuts : Cuts W (fun _ => True) Bk us
  few : ∀ t ∈ us, t.ins.length ≤ 10000
  leads : Leads L us M
theorem Way.next {w W W' : World} {Aw Bk : Option Addr} {nw cw nb cb : Nat} {L M : List ByteArray} {us : List Ct} (h : Way w W Aw nw cw L Bk nb cb us M) (hB : Below W.heap.size W W') : Way w W' Aw nw cw L Bk nb cb us M :=
  ⟨h.below.trans (hB.mono h.below.size), h.fine, h.now.below hB, h.len, h.nil, h.cuts.below hB, h.few, h.leads⟩
theorem Way.nw {w W : World} {Aw Bk : Option Addr} {nw cw nb cb : Nat} {L M : List ByteArray} {us : List Ct} (h : Way w W Aw nw cw L Bk nb cb us M) : nw ≤ 2000 := by rw [h.now.len]; exact h.fine.1
theorem drop_cons {us : List Ct} {k : Nat} {t : Ct} (h : us[k]? = some t) : us.drop k = t :: us.drop (k + 1) := by
  obtain ⟨hk, rfl⟩ := List.getElem?_eq_some_iff.1 h
  exact List.drop_eq_getElem_cons hk

set_option maxHeartbeats 8000000 in
set_option maxRecDepth 100000 in
theorem law5 (A : Option Addr) (n c : Nat) (zs : List ByteArray) (Bo : Option Addr) (m c' : Nat) (ts : List Ct) (w : World) (h : InL w A n c zs) (hm : m = ts.length) (hmb : m ≤ maxLen) (hC : Cuts w (· < w.heap.size) Bo ts) (hV : VarT w.heap.size w) :
    Calls Tryd.prog 5 #[.slice A n c, .slice Bo m c'] w fun e w' => e = .returned (.bool true) ∧ Below w.heap.size w w' := by
  have C1 := Lib.hid (great_in h 500 20000 (by omega) (by omega))
  have C2 := Lib.hid (much_is w _ Bo m c' ts 40 (by omega) hm hmb hC)
  have HI := Lib.hid h
  have HM := Lib.hid hm
  have HC := Lib.hid hC
  have HV := Lib.hid hV
  clear h hm hmb hC hV
  go_enter Tryd.func5, Tryd.ntmps5
  go_wp2_with fail
  go_at_call 9
  refine C1.out.mono ?_
  rintro e w' ⟨(rfl | ⟨rfl, g1, g2⟩), rfl⟩
  · go_wp2
    go_ret
    exact ⟨rfl, Below.refl _ _⟩
  have hn3 : n ≤ 500 := by rw [HI.out.lst.len]; exact g1
  clear C1 g1 g2
  go_wp2_with fail
  go_at_call 10
  refine C2.out.mono ?_
  rintro e w' ⟨(rfl | ⟨rfl, g1, g2⟩), rfl⟩
  · go_wp2
    go_ret
    exact ⟨rfl, Below.refl _ _⟩
  have hm6 : m ≤ 40 := by rw [HM.out]; exact g1
  have HF := Lib.hid (fun t ht => Nat.le_trans (g2 t ht).1 (by omega : 2100 ≤ 10000))
  clear C2 g1 g2
  obtain ⟨k0, hk0⟩ : ∃ k0, allK zs [] = k0 := ⟨_, rfl⟩
  have HK0 := Lib.hid hk0
  clear hk0
  go_wp2_with fail
  go_at_call 22
  refine (all_is (· < w.heap.size) A n c zs none 0 0 [] w k0 HK0.out HI.out.lst (by omega) ⟨VRd.nil, fun t ht => by cases ht⟩ rfl (by omega) (fun t ht => by cases ht)).mono ?_
  rintro e w2 hE
  obtain ⟨A2, n2, c2, rfl, hn2, ho2, hB2⟩ := hE.res
  have hz2 := hB2.size
  by_cases h0 : k0 = 0
  case neg =>
    have hqb : (k0 == 0) = false := by simpa using h0
    have hqn : (k0 != 0) = true := by rw [bne, hqb]; rfl
    have HB2 := Lib.hid hB2
    clear hE hn2 ho2 hB2 h0
    go_wp2_with fail
    go_at_call 21
    refine (does_is w2 ((HV.out.below HB2.out).more HB2.out.size)).mono ?_
    rintro e w6 ⟨rfl, hB6⟩
    have HB6 := Lib.hid (HB2.out.trans (hB6.mono HB2.out.size))
    clear hB6 HB2
    go_wp2
    go_ret
    exact ⟨rfl, HB6.out⟩
  case pos =>
  subst h0
  have HFZ := Lib.hid (allK_zero.1 HK0.out).1
  have W2 : Hid (Way w w2 A2 n2 c2 zs none 0 0 [] zs) := Lib.hid ⟨hB2, HFZ.out, (lst_own hn2 ho2).any, rfl, fun _ => rfl, ⟨VRd.nil, fun t ht => (by cases ht)⟩, (fun t ht => (by cases ht)), Leads.nil zs⟩
  clear hE hn2 ho2 hB2
  go_wp2
  go_loopg [5, 7, 9] m (fun g s5 s7 s9 wr => ∃ (k : Nat) (Aw : Option Addr) (nw cw : Nat) (L : List ByteArray) (Bk : Option Addr) (nb cb : Nat) (us : List Ct), k ≤ m ∧ m - k ≤ g ∧ nb ≤ k ∧ s9 = .int .i64 k ∧ s5 = .slice Aw nw cw ∧ s7 = .slice Bk nb cb ∧ Hid (Way w wr Aw nw cw L Bk nb cb us zs))
  case atStart => exact ⟨0, A2, n2, c2, zs, none, 0, 0, [], Nat.zero_le _, by omega, Nat.le_refl _, rfl, rfl, rfl, W2⟩
  case round =>
    obtain ⟨k, Aw, nw, cw, L, Bk, nb, cb, us, hk, hg, hnk, rfl, rfl, rfl, HW⟩ := hrel
    have hz := HW.out.below.size
    have hnw := HW.out.nw
    clear W2
    by_cases hlt : k < m
    · obtain ⟨t, ht⟩ : ∃ t, ts[k]? = some t := ⟨_, List.getElem?_eq_getElem (by rw [← HM.out]; exact hlt)⟩
      have HC4 := Lib.hid (HC.out.below HW.out.below)
      have HOK := Lib.hid (HC4.out.each t (List.mem_of_getElem? ht))
      obtain ⟨bt, ot, hBt, ct0, ct1, ct2⟩ := HC4.out.at ht
      have hfew : t.ins.length ≤ 10000 := HF.out t (List.mem_of_getElem? ht)
      subst hBt
      have hbl : bt < wr.heap.size := World.block_lt_of_cell? _ _ ct0
      obtain ⟨z, hzz⟩ : ∃ z, stp L t = z := ⟨_, rfl⟩
      have HZ := Lib.hid hzz
      clear ht hzz
      go_wp2_with fail
      go_at_call 12
      refine (apply_is (fun _ => True) Aw nw cw L t.a t.d t.A t.ins.length t.c t.ins wr z (by rw [appK_fine HW.out.fine]; exact HZ.out) HW.out.now (by omega) HOK.out.a1 HOK.out.a2 HOK.out.d1 HOK.out.d2 HOK.out.lst.any (by omega)).mono ?_
      rintro e w3 hE
      obtain ⟨A3, n3, c3, rfl, hn3', ho3, hB3⟩ := hE.res
      have hz3 := hB3.size
      have HW3 := Lib.hid (HW.out.next hB3)
      have HOK3 := Lib.hid (HOK.out.keep (fun b _ hb => hB3.block b hb) hz3)
      have f0 := (Below.cell hB3 (p := ⟨bt, ot + k * 3, none⟩) hbl).trans ct0
      have f1 := (Below.cell hB3 (p := ⟨bt, ot + k * 3 + 1, none⟩) hbl).trans ct1
      have f2 := (Below.cell hB3 (p := ⟨bt, ot + k * 3 + 2, none⟩) hbl).trans ct2
      have L3 := Lib.hid (lst_own hn3' ho3).any
      clear hE hn3' ho3 hB3 HW HOK ct0 ct1 ct2
      go_wp2_with fail
      go_at_call 14
      refine (inverse_is (fun _ => True) Aw nw cw L t.a t.d t.A t.ins.length t.c t.ins w3 z (by rw [appK_fine HW3.out.fine]; exact HZ.out) HW3.out.now (by omega) HOK3.out.a1 HOK3.out.a2 HOK3.out.d1 HOK3.out.d2 HOK3.out.lst.any (by omega)).mono ?_
      rintro e w4 hE
      have hzn : (z != z) = false := by simp
      by_cases h0 : z = 0
      · subst h0
        obtain ⟨u, rfl, hu1, hu2, hu3, huo, hB4⟩ := hE.ct rfl HW3.out.fine ⟨HOK3.out.a1, HOK3.out.a2⟩ (by omega)
        have hz4 := hB4.size
        have HW4 := Lib.hid (HW3.out.next hB4)
        have L4 := Lib.hid (L3.out.below hB4)
        have HU := Lib.hid (inv_back HW3.out.fine HZ.out hu1 hu2 hu3)
        have HUO := Lib.hid huo
        have HU3 := Lib.hid hu3
        have hul : u.ins.length ≤ 2000 := by rw [hu3]; exact (gone_fine HW3.out.fine _ _).1
        clear hE hu1 hu2 hu3 huo hB4 HW3 L3 f0 f1 f2 HOK3
        obtain ⟨w5, hw5⟩ : ∃ w5, w4.alloc (.cells #[.int .i64 u.a, .int .i64 u.d, .slice u.A u.ins.length u.c] 24) = w5 := ⟨_, rfl⟩
        have hB5 : Below w4.heap.size w4 w5 := by rw [← hw5]; exact (Below.refl _ _).alloc (Nat.le_refl _) _
        have U5 : At w5 w4.heap.size 24 #[.int .i64 u.a, .int .i64 u.d, .slice u.A u.ins.length u.c] := by rw [← hw5]; exact At.new _ _ _
        have HW5 := Lib.hid (HW4.out.next hB5)
        have L5 := Lib.hid (L4.out.below hB5)
        have HUO5 := Lib.hid (HUO.out.keep (fun b _ hb => hB5.block b hb) hB5.size)
        obtain ⟨f0, f1, f2⟩ := three_at U5
        have hB5' := Lib.hid hB5
        clear hB5 U5 HW4 L4 HUO
        go_wp2_with (first
          | (refine wpList_storeL rfl (.tmp 12) (.tmp 58) rfl w4 _ _ _ rfl u.a u.d u.A u.ins.length u.c (by first | rfl | simp [Act.eval, Act.put]) (by first | rfl | simp [Act.eval, Act.put]) ?_; rw [hw5])
          | (at_builtin; refine wpList_front rfl (.tmp 67) (.tmp 68) rfl w5 (fun _ => True) u rfl (by first | rfl | simp [Act.eval, Act.put]) Bk nb cb us (by first | rfl | simp [Act.eval, Act.put]) HW5.out.len HW5.out.nil HW5.out.cuts HUO5.out (by omega) ?_; intro B6 c6 w6 hF6; have HF6 := Lib.hid hF6; clear hF6)
          | fail "NONE")
        have HN : Hid (n3 = (nxt L t).length) := Lib.hid L5.out.len
        have HW6 : Hid (Way w w6 A3 n3 c3 (nxt L t) B6 (nb + 1) c6 (u :: us) zs) := Lib.hid ⟨HW5.out.below.trans (HF6.out.below.mono HW5.out.below.size), nxt_fine HW5.out.fine HZ.out, L5.out.below HF6.out.below, HF6.out.len, HF6.out.nil, HF6.out.cuts, (fun t' ht' => by
            rcases List.mem_cons.1 ht' with rfl | ht'
            · omega
            · exact HW5.out.few t' ht'), Leads.cons HU.out.1 (by rw [HU.out.2]; exact HW5.out.leads)⟩
        go_roundg (m - (k + 1))
        case measure => omega
        case rel => exact ⟨k + 1, A3, n3, c3, nxt L t, B6, nb + 1, c6, u :: us, by omega, by omega, by omega, by go_num, rfl, rfl, HW6⟩
      · obtain ⟨rfl, hB4⟩ := hE.res0 h0
        have HW4 := Lib.hid (HW3.out.next hB4)
        have hz0 : (z == 0) = false := by simpa using h0
        have hz1 : (z != 0) = true := by rw [bne, hz0]; rfl
        clear hE hB4 HW3 L3 f0 f1 f2 HOK3 h0
        obtain ⟨w5, hw5⟩ : ∃ w5, w4.alloc (.cells #[.int .i64 0, .int .i64 0, .slice none 0 0] 24) = w5 := ⟨_, rfl⟩
        have hB5 : Below w4.heap.size w4 w5 := by rw [← hw5]; exact (Below.refl _ _).alloc (Nat.le_refl _) _
        have HW5 := Lib.hid (HW4.out.next hB5)
        clear hB5 HW4
        go_wp2_with (refine wpList_storeL rfl (.tmp 12) (.tmp 58) rfl w4 _ _ _ (by first | rfl | exact hw5.symm) 0 0 none 0 0 (by first | rfl | simp [Act.eval, Act.put]) (by first | rfl | simp [Act.eval, Act.put]) ?_; rw [hw5])
        go_roundg (m - (k + 1))
        case measure => omega
        case rel => exact ⟨k + 1, Aw, nw, cw, L, Bk, nb, cb, us, by omega, by omega, by omega, by go_num, rfl, rfl, HW5⟩
    · have hkm : k = m := by omega
      subst hkm
      have hnb : nb ≤ 40 := by omega
      have V0 : Hid (Way w wr Aw nw cw L none 0 0 [] L) := Lib.hid ⟨HW.out.below, HW.out.fine, HW.out.now, rfl, fun _ => rfl, ⟨VRd.nil, fun t ht => (by cases ht)⟩, (fun t ht => (by cases ht)), Leads.nil L⟩
      have HEL : Hid (Lst wr (fun _ => True) Aw nw cw L) := Lib.hid HW.out.now
      have HCB := Lib.hid HW.out.cuts
      have HLB := Lib.hid HW.out.leads
      have HNB := Lib.hid HW.out.len
      have HFB := Lib.hid HW.out.few
      have HNIL := Lib.hid HW.out.nil
      clear hk hg hlt HW hnk
      go_wp2
      go_loopg [5, 8, 15] nb (fun g s5 s8 s15 wq => ∃ (i : Nat) (A5 : Option Addr) (n5 c5 : Nat) (L' : List ByteArray) (Ak : Option Addr) (na ca : Nat) (vs : List Ct), i ≤ nb ∧ nb - i ≤ g ∧ na ≤ i ∧ s15 = .int .i64 i ∧ s5 = .slice A5 n5 c5 ∧ s8 = .slice Ak na ca ∧ Hid (Way w wq A5 n5 c5 L' Ak na ca vs L) ∧ Hid (Cuts wq (fun _ => True) Bk us) ∧ Hid (Lst wq (fun _ => True) Aw nw cw L) ∧ Hid (Leads L' (us.drop i) zs))
      case atStart => exact ⟨0, Aw, nw, cw, L, none, 0, 0, [], Nat.zero_le _, by omega, Nat.le_refl _, rfl, rfl, rfl, V0, HCB, HEL, HLB⟩
      case round =>
        obtain ⟨i, A5, n5, c5, L', Ak, na, ca, vs, hi, hgi, hna, rfl, rfl, rfl, HW, HC4, HE4, HL4⟩ := hrel
        have hzz := HW.out.below.size
        have hn5 := HW.out.nw
        clear V0 HCB HEL HLB
        by_cases hil : i < nb
        · obtain ⟨t, ht⟩ : ∃ t, us[i]? = some t := ⟨_, List.getElem?_eq_getElem (by rw [← HNB.out]; exact hil)⟩
          have HOK := Lib.hid (HC4.out.each t (List.mem_of_getElem? ht))
          obtain ⟨bt, ot, hBt, ct0, ct1, ct2⟩ := HC4.out.at ht
          have hfew : t.ins.length ≤ 10000 := HFB.out t (List.mem_of_getElem? ht)
          have HHD := Lib.hid (show stp L' t = 0 ∧ Leads (nxt L' t) (us.drop (i + 1)) zs from Leads.head (by rw [← drop_cons ht]; exact HL4.out))
          subst hBt
          have hbl : bt < wr.heap.size := World.block_lt_of_cell? _ _ ct0
          clear ht
          go_wp2_with fail
          go_at_call 14
          refine (inverse_is (fun _ => True) A5 n5 c5 L' t.a t.d t.A t.ins.length t.c t.ins wr 0 (by rw [appK_fine HW.out.fine]; exact HHD.out.1) HW.out.now (by omega) HOK.out.a1 HOK.out.a2 HOK.out.d1 HOK.out.d2 HOK.out.lst (by omega)).mono ?_
          rintro e w4 hE
          obtain ⟨u, rfl, hu1, hu2, hu3, huo, hB4⟩ := hE.ct rfl HW.out.fine ⟨HOK.out.a1, HOK.out.a2⟩ (by omega)
          have hz4 := hB4.size
          have HW4 := Lib.hid (HW.out.next hB4)
          have HC5 := Lib.hid (HC4.out.below hB4)
          have HE5 := Lib.hid (HE4.out.below hB4)
          have HOK4 := Lib.hid (HOK.out.keep (fun b _ hb => hB4.block b hb) hz4)
          have HU := Lib.hid (inv_back HW.out.fine HHD.out.1 hu1 hu2 hu3)
          have HUO := Lib.hid huo
          have hul : u.ins.length ≤ 2000 := by rw [hu3]; exact (gone_fine HW.out.fine _ _).1
          have f0 := (Below.cell hB4 (p := ⟨bt, ot + i * 3, none⟩) hbl).trans ct0
          have f1 := (Below.cell hB4 (p := ⟨bt, ot + i * 3 + 1, none⟩) hbl).trans ct1
          have f2 := (Below.cell hB4 (p := ⟨bt, ot + i * 3 + 2, none⟩) hbl).trans ct2
          have hbl4 : bt < w4.heap.size := by omega
          clear hE hu1 hu2 hu3 huo hB4 HW HC4 HE4 HOK ct0 ct1 ct2
          obtain ⟨w5, hw5⟩ : ∃ w5, w4.alloc (.cells #[.int .i64 u.a, .int .i64 u.d, .slice u.A u.ins.length u.c] 24) = w5 := ⟨_, rfl⟩
          have hB5 : Below w4.heap.size w4 w5 := by rw [← hw5]; exact (Below.refl _ _).alloc (Nat.le_refl _) _
          have U5 : At w5 w4.heap.size 24 #[.int .i64 u.a, .int .i64 u.d, .slice u.A u.ins.length u.c] := by rw [← hw5]; exact At.new _ _ _
          have HW5 := Lib.hid (HW4.out.next hB5)
          have HC6 := Lib.hid (HC5.out.below hB5)
          have HE6 := Lib.hid (HE5.out.below hB5)
          have HOK5 := Lib.hid (HOK4.out.keep (fun b _ hb => hB5.block b hb) hB5.size)
          have HUO5 := Lib.hid (HUO.out.keep (fun b _ hb => hB5.block b hb) hB5.size)
          have HU5 := Lib.hid U5
          have f3 := (Below.cell hB5 (p := ⟨bt, ot + i * 3, none⟩) hbl4).trans f0
          have f4 := (Below.cell hB5 (p := ⟨bt, ot + i * 3 + 1, none⟩) hbl4).trans f1
          have f5 := (Below.cell hB5 (p := ⟨bt, ot + i * 3 + 2, none⟩) hbl4).trans f2
          clear hB5 U5 HW4 HC5 HE5 HOK4 HUO f0 f1 f2
          go_wp2_with (refine wpList_storeL rfl (.tmp 16) (.tmp 84) rfl w4 _ _ _ rfl u.a u.d u.A u.ins.length u.c (by first | rfl | simp [Act.eval, Act.put]) (by first | rfl | simp [Act.eval, Act.put]) ?_; rw [hw5])
          go_at_call 12
          refine (apply_is (fun _ => True) A5 n5 c5 L' t.a t.d t.A t.ins.length t.c t.ins w5 0 (by rw [appK_fine HW5.out.fine]; exact HHD.out.1) HW5.out.now (by omega) HOK5.out.a1 HOK5.out.a2 HOK5.out.d1 HOK5.out.d2 HOK5.out.lst (by omega)).mono ?_
          rintro e w6 hE
          obtain ⟨A6, n6, c6, rfl, hn6, ho6, hB6⟩ := hE.res
          have hz6 := hB6.size
          have HW6 := Lib.hid (HW5.out.next hB6)
          have HC7 := Lib.hid (HC6.out.below hB6)
          have HE7 := Lib.hid (HE6.out.below hB6)
          have HUO6 := Lib.hid (HUO5.out.keep (fun b _ hb => hB6.block b hb) hz6)
          have hU6 := HU5.out.same (hB6.block _ HU5.out.lt)
          have L6 := Lib.hid (show Lst w6 (fun _ => True) A6 n6 c6 (nxt L' t) from (lst_own hn6 ho6).any)
          obtain ⟨f0, f1, f2⟩ := three_at hU6
          clear hE hn6 ho6 hB6 HW5 HC6 HE6 HOK5 HUO5 HU5 hU6 f3 f4 f5 hw5
          go_wp2_with (first
            | (at_builtin; refine wpList_front rfl (.tmp 103) (.tmp 104) rfl w6 (fun _ => True) u rfl (by first | rfl | simp [Act.eval, Act.put]) Ak na ca vs (by first | rfl | simp [Act.eval, Act.put]) HW6.out.len HW6.out.nil HW6.out.cuts HUO6.out (by omega) ?_; intro B7 c7 w7 hF7; have HF7 := Lib.hid hF7; clear hF7)
            | fail "NONE")
          have HN : Hid (n6 = (nxt L' t).length) := Lib.hid L6.out.len
          have HW7 : Hid (Way w w7 A6 n6 c6 (nxt L' t) B7 (na + 1) c7 (u :: vs) L) := Lib.hid ⟨HW6.out.below.trans (HF7.out.below.mono HW6.out.below.size), nxt_fine HW6.out.fine HHD.out.1, L6.out.below HF7.out.below, HF7.out.len, HF7.out.nil, HF7.out.cuts, (fun t' ht' => by
              rcases List.mem_cons.1 ht' with rfl | ht'
              · omega
              · exact HW6.out.few t' ht'), Leads.cons HU.out.1 (by rw [HU.out.2]; exact HW6.out.leads)⟩
          have HC8 := Lib.hid (HC7.out.below HF7.out.below)
          have HE8 := Lib.hid (HE7.out.below HF7.out.below)
          have HL8 := Lib.hid HHD.out.2
          go_roundg (nb - (i + 1))
          case measure => omega
          case rel => exact ⟨i + 1, A6, n6, c6, nxt L' t, B7, na + 1, c7, u :: vs, by omega, by omega, by omega, by go_num, rfl, rfl, HW7, HC8, HE8, HL8⟩
        · have hin : i = nb := by omega
          subst hin
          obtain rfl : L' = zs := by
            have h := HL4.out
            rw [HNB.out, List.drop_length] at h
            exact h.2
          go_wp2_with fail
          go_at_call 16
          refine (same12_b A5 A c5 c n5 n _ _ _ true HW.out.now.len HI.out.lst.len (by omega) (by omega) (by simp) HW.out.now.srd (HI.out.lst.below HW.out.below).srd).mono ?_
          rintro e w4 ⟨rfl, hB4⟩
          have HW4 := Lib.hid (HW.out.next hB4)
          have HE5 := Lib.hid (HE4.out.below hB4)
          clear hB4 HW HE4 HC4
          go_wp2_with fail
          go_at_call 22
          refine (all_is (fun _ => True) A5 n5 c5 L' Ak na ca vs w4 0 (by rw [allK_fine HW4.out.fine]; exact HW4.out.leads.1) HW4.out.now (by omega) HW4.out.cuts HW4.out.len (by omega) HW4.out.few).mono ?_
          rintro e w5 hE
          obtain ⟨A6, n6, c6, rfl, hn6, ho6, hB5⟩ := hE.res
          have hl6 : resL (runL L' vs) 0 = L := HW4.out.leads.2
          rw [hl6] at hn6 ho6
          have HB5 := Lib.hid (HW4.out.below.trans (hB5.mono HW4.out.below.size))
          have HE6 := Lib.hid (HE5.out.below hB5)
          have L6 := Lib.hid (lst_own hn6 ho6).any
          have hn6b : n6 ≤ 100000 := by rw [hn6, ← HE5.out.len]; omega
          clear hE hn6 ho6 hB5 hl6 HE5 HW4
          go_wp2_with fail
          go_at_call 16
          refine (same12_b A6 Aw c6 cw n6 nw _ _ w5 true L6.out.len HE6.out.len (by omega) (by omega) (by simp) L6.out.srd HE6.out.srd).mono ?_
          rintro e w6 ⟨rfl, hB6⟩
          have HB6 := Lib.hid (HB5.out.trans (hB6.mono HB5.out.size))
          clear hB6 HB5 L6 HE6
          go_wp2_with fail
          go_at_call 21
          refine (does_is w6 ((HV.out.below HB6.out).more HB6.out.size)).mono ?_
          rintro e w7 ⟨rfl, hB7⟩
          have HB7 := Lib.hid (HB6.out.trans (hB7.mono HB6.out.size))
          clear hB7 HB6
          go_wp2
          go_ret
          exact ⟨rfl, HB7.out⟩
end Go.Proofs.YtakckmelojobkaaDoor.sps
