/- FilesKeep, walked. -/
import Derived.Test.YtpdegpppeepphaaFilGo
import Derived.BigQuiet
namespace Go.Proofs.Ytpdegpppeepphaa.fil
open Go.RowKit Go.Lib Go.Maps Go.WideMaps
set_option linter.unusedVariables false
set_option linter.unusedSimpArgs false
set_option linter.unnecessarySimpa false
set_option linter.unusedSectionVars false

theorem cut1_again (k k' : Int) (x : Fl) (h : x.plat ≤ x.bytes.length) : cut1 k' (cut1 k x) = cut1 k x := by
  have hk := keepN_le (k := k) h
  have e : keepN k' (cut1 k x) = keepN k x := by
    show keepN k x + min k'.toNat ((x.bytes.take (keepN k x)).length - keepN k x) = keepN k x
    rw [List.length_take]; omega
  show (⟨x.name, (x.bytes.take (keepN k x)).take (keepN k' (cut1 k x)), keepN k' (cut1 k x)⟩ : Fl) = ⟨x.name, x.bytes.take (keepN k x), keepN k x⟩
  rw [e, List.take_take, Nat.min_self]
theorem lose_again : ∀ (ks ks' : List Int) (l : List Fl), (∀ x ∈ l, x.plat ≤ x.bytes.length) → lose ks' (lose ks l) = lose ks l
  | _, _, [], _ => by simp [lose]
  | ks, ks', x :: r, h => by
    simp only [lose]
    rw [cut1_again _ _ x (h x (List.mem_cons_self ..)), lose_again ks.tail ks'.tail r fun y hy => h y (List.mem_cons_of_mem _ hy)]
theorem namesOf_lose (ks : List Int) (l : List Fl) : namesOf (lose ks l) = namesOf l := lose_names ks l
theorem bytesOf_lose_get (ks : List Int) (l : List Fl) (i : Nat) (x : Fl) (h : l[i]? = some x) : (bytesOf (lose ks l))[i]? = some (x.bytes.take (keepN (ks.getD i 0) x)) := by
  unfold bytesOf
  rw [List.getElem?_map, lose_get, h]
  rfl

/-- The crash, and the start behind it. -/
def downUp (s : St) (ks : List Int) : St := ⟨s.cap, lose ks s.files, false, s.starts + 1, none⟩
theorem down_crash {s : St} (h : s.off = false) (ks : List Int) : sCrash s ks = (0, crash ks s) := by unfold sCrash; rw [if_neg (by rw [h]; decide)]
theorem down_start (s : St) (ks : List Int) : sStart (crash ks s) = (0, downUp s ks) := rfl

set_option maxHeartbeats 4000000 in
set_option maxRecDepth 100000 in
theorem law5 (size : Nat) (A : Option Addr) (c n : Nat) (ds : List Dt) (Bk : Option Addr) (ck m : Nat) (ks : List Int) (w : World) (hsz : size < 65536) (hn : n = ds.length) (hnm : n ≤ 9223372036854775807) (h : Dos w w.heap.size A ds) (hm : m = ks.length) (hmc : m ≤ ck) (hck : ck ≤ maxLen) (hk : LRd w 0 w.heap.size Bk (iv ks))
    (hdoes : Hid (∀ W, Calls Try.prog 16 #[] W fun e w' => e = .returned (.bool true) ∧ Below W.heap.size W w')) :
    Calls Try.prog 5 #[.int .u16 size, .slice A n c, .slice Bk m ck] w fun e w' => e = .returned (.bool true) ∧ Below w.heap.size w w' := by
  have hck' : ck ≤ 9223372036854775807 := by unfold maxLen at hck; omega
  have hm9 : m ≤ 9223372036854775807 := by omega
  have CM := Lib.hid (much_is A c n w.heap.size ds w hn hnm (Nat.le_refl _) h)
  have HN := Lib.hid hn
  have HD := Lib.hid h
  have HK := Lib.hid hk
  have HM := Lib.hid hm
  clear hn h hk hm
  go_enter Try.func5, Try.ntmps5
  go_wp2_with fail
  go_at_call 9
  refine CM.out.mono ?_
  rintro e w1 ⟨he, hB1⟩
  clear CM
  rcases he with rfl | ⟨rfl, h120, h60⟩
  · go_wp2
    go_ret
    exact ⟨rfl, hB1⟩
  have H6 := Lib.hid h60
  rw [← HN.out] at h120
  clear h60
  by_cases z3 : 60 < m
  · go_wp2
    go_ret
    exact ⟨rfl, hB1⟩
  have hz1 := hB1.size
  have CA := after_is A c n w.heap.size size ds w1 HN.out (by omega) hsz hz1 (HD.out.belowN hB1)
  have hon := after_on (1 + size) ds
  have hfa := (after_facts (1 + size) ds).2.2
  rw [← HN.out] at hfa
  have hst : (after (1 + size) ds).starts ≤ 1000 := by omega
  generalize after (1 + size) ds = s at CA hon hst
  have CA := Lib.hid CA
  have HST := Lib.hid hst
  have HON := Lib.hid hon
  have H0 := Lib.hid (HK.out.belowN hB1)
  clear hfa hst hon HD HN H6 HK
  go_wp2_with fail
  go_at_call 25
  refine CA.out.mono ?_
  rintro e w2 ⟨rfl, hR⟩
  clear CA
  obtain ⟨F, hF1, hF2⟩ := hR.is
  have hlt := hF2.lt
  have hok := hF2.ok
  have HP := Lib.hid hok.plat
  have hfew := hok.few
  have hroom := hok.room
  have hcap := hok.cap2
  have HB2 : Below w.heap.size w w2 := hB1.trans (hR.below.mono hz1)
  have H0' := Lib.hid (H0.out.belowN (hR.below.mono hz1))
  have hz2 := HB2.size
  have hR1 := hR.size
  generalize hfb : w1.heap.size + 1 = fb at *
  generalize hn1 : w1.heap.size = n1 at *
  have C1 := Lib.hid (names_has ⟨F, hF2⟩)
  clear hfb H0 hB1 hR hn1
  generalize hl : s.files.length = l at *
  have HL := Lib.hid hl
  clear hl
  go_wp2_with fail
  go_at_call 18
  refine C1.out.mono ?_
  rintro e w3 ⟨A3, c3, rfl, p1, p2, p3, p4⟩
  clear C1
  have hF3 := hF2.below p4
  have C2 := Lib.hid ((uns_has ⟨F, hF3⟩).mono fun e w' h => h.len HL.out rfl)
  have hz3 := p4.size
  go_wp2_with fail
  go_at_call 19
  refine C2.out.mono ?_
  rintro e w4 ⟨A4, c4, rfl, q1, q2, q3, q4⟩
  clear C2
  have hF4 := hF3.below q4
  have C3 := Lib.hid ((held_has HON.out ⟨F, hF4⟩).mono fun e w' h => h.len HL.out rfl)
  have hz4 := q4.size
  go_wp2_with fail
  go_at_call 26
  refine C3.out.mono ?_
  rintro e w5 ⟨A5, c5, rfl, r1, r2, r3, r4⟩
  clear C3
  have hF5 := hF4.below r4
  have hz5 := r4.size
  have L3 := ((p3.below q4).below r4).more (Nat.le_refl _) (show w3.heap.size ≤ w5.heap.size by omega)
  have L4 := (q3.below r4).more (show w2.heap.size ≤ w3.heap.size by omega) hz5
  have L5 := r3.more (show w2.heap.size ≤ w4.heap.size by omega) (Nat.le_refl _)
  have HB5 : Below w2.heap.size w2 w5 := (p4.trans (q4.mono hz3)).trans (r4.mono (by omega))
  have K5 := H0'.out.belowN (HB5.mono (by omega : w.heap.size ≤ w2.heap.size))
  have HB5' : Below w.heap.size w w5 := HB2.trans (HB5.mono hz2)
  have CC := crash_gone Bk ck 0 w.heap.size ks (by rw [← HM.out]; exact hm9) K5 (wb := w5) (F := F) (fun b hb => .inr (by rcases hb with hb | hb; · have := hF1 b hb; omega
                                                                                                                          · omega)) (Wentz.refl hF5)
  rw [down_crash HON.out, ← HM.out] at CC
  have CC := Lib.hid CC
  have H5 := Lib.hid K5
  have hF2' : ∀ b, F b → b < w2.heap.size := hlt
  clear p3 p4 q3 q4 r3 r4 H0' HB5 HB2 hF2 hF3 hF4 hF5 K5 hlt
  go_wp2_with fail
  go_at_call 27
  refine CC.out.mono ?_
  rintro e w6 ⟨rfl, W6⟩
  clear CC
  have CU : Hid (Calls Try.prog 21 #[.pointer (some ⟨fb, 0, none⟩)] w6 fun e w' => e = .returned (.bool false) ∧ w6 = w') := Lib.hid (up_has W6.has)
  have CT := start_gone (by show s.starts ≤ 1000000; have := HST.out; omega) W6
  rw [down_start] at CT
  have CT := Lib.hid CT
  clear W6
  go_wp2_with fail
  go_at_call 21
  refine CU.out.mono ?_
  rintro e w' ⟨rfl, rfl⟩
  clear CU
  go_wp2_with fail
  go_at_call 28
  refine CT.out.mono ?_
  rintro e w7 ⟨rfl, W7⟩
  clear CT
  have L3 := Lib.hid (L3.went W7 (fun b hb => .inl (hF2' b hb)))
  have L4 := Lib.hid (L4.went W7 (fun b hb => .inl (hF2' b hb)))
  have L5 := Lib.hid (L5.went W7 (fun b hb => .inl (hF2' b hb)))
  have HB7 : Below w.heap.size w w7 := HB5'.trans (W7.below (by omega) (fun b hb => by have := hF1 b hb; omega))
  have H7 := Lib.hid (H5.out.belowN (W7.below (show w.heap.size ≤ w5.heap.size by omega) (fun b hb => by have := hF1 b hb; omega)))
  have hsz7 := W7.1.size
  obtain ⟨_, F2, k1, k2⟩ := W7
  have HS := Lib.hid k2
  have HF2 := Lib.hid k2.lt
  have HFn : Hid (∀ b, F2 b → w.heap.size ≤ b) := Lib.hid (fun b hb => by
    rcases k1 b hb with h | h
    · have := hF1 b h; omega
    · omega)
  clear hF1 hF2' k1 k2 HB5'
  obtain ⟨i0, hi0, yz0, yz1, yz2⟩ := info_parts info9
  have hml : (1000000 : Nat) ≤ maxLen := by unfold maxLen; omega
  have hsz7' := HB7.size
  go_wp2
  go_loopg [11, 12] l (fun g s11 s12 wr => ∃ i : Nat, s12 = .int .i64 i ∧ i ≤ l ∧ l - i ≤ g ∧ wr.ownsRow w7.heap.size 9 1 s11 i (strV ((bytesOf (lose ks s.files)).take i)) ∧ Below w7.heap.size w7 wr)
  case atStart => exact ⟨0, rfl, Nat.zero_le _, by omega, World.ownsRow_nil _ _ _ _, Below.refl _ _⟩
  case round =>
    obtain ⟨i, rfl, hi, hgm, hown, hb1⟩ := hrel
    have hsz1 := hb1.size
    by_cases hlt : i < l
    · obtain ⟨x, hx⟩ : ∃ x, s.files[i]? = some x := ⟨s.files[i]'(by rw [HL.out]; exact hlt), List.getElem?_eq_getElem _⟩
      have hxm := List.mem_of_getElem? hx
      have hpl := HP.out x hxm
      have hxl := total_mem hxm
      obtain ⟨b4, o4, rfl, _, _, d4⟩ := (L4.out.below hb1) (by rw [iv_length]; unfold airOf; rw [List.length_map, HL.out]; omega)
      obtain ⟨b5, o5, rfl, _, _, d5⟩ := (L5.out.below hb1) (by rw [strV_length, bytesOf_length, HL.out]; omega)
      have q4 : wr.cell? ⟨b4, o4 + i, none⟩ = some (.int .i64 ((x.bytes.length - x.plat : Nat) : Int)) := d4 i _ (by simp [iv, airOf, hx])
      have q5 : wr.cell? ⟨b5, o5 + i, none⟩ = some (.string (B x.bytes)) := d5 i _ (by simp [strV, bytesOf, hx])
      have hgb := bytesOf_lose_get ks s.files i x hx
      have hsb : (B x.bytes).size = x.bytes.length := B_size _
      have hkl := keepN_le (k := ks.getD i 0) hpl
      have hke : keepN (ks.getD i 0) x = x.plat + min (ks.getD i 0).toNat (x.bytes.length - x.plat) := rfl
      have SL := front_slice (B x.bytes) (keepN (ks.getD i 0) x) (by rw [hsb]; exact hkl)
      rw [list_B] at SL
      have HT : Hid (strV ((bytesOf (lose ks s.files)).take (i + 1)) = strV ((bytesOf (lose ks s.files)).take i) ++ [.string (B (x.bytes.take (keepN (ks.getD i 0) x)))]) := Lib.hid (by
        rw [List.take_add_one, hgb]
        simp [strV])
      have HKC : Hid (i < m → ∃ bk ok, Bk = some ⟨bk, ok, none⟩ ∧ wr.cell? ⟨bk, ok + i, none⟩ = some (.int .i64 (ks.getD i 0))) := Lib.hid (fun him => by
        obtain ⟨bk, ok, e, hck⟩ := (H7.out.belowN (hb1.mono HB7.size)).ints (by rw [← HM.out]; omega)
        exact ⟨bk, ok, e, hck i (by rw [← HM.out]; exact him)⟩)
      have hkd : Hid (m ≤ i → ks.getD i 0 = 0) := Lib.hid (fun him => by simp [List.getD, List.getElem?_eq_none (show ks.length ≤ i by rw [← HM.out]; exact him)])
      clear d4 d5 hgb hx hxm
      generalize ha : x.bytes.length - x.plat = a at *
      generalize x.bytes.length = bl at *
      generalize hN : keepN (ks.getD i 0) x = N at *
      generalize x.plat = p at *
      generalize ks.getD i 0 = kk at *
      generalize x.bytes.take N = xt at *
      generalize B x.bytes = sb at *
      have HN := Lib.hid hN
      clear hN
      have HSB := Lib.hid hsb
      have hNs : N ≤ sb.size := by omega
      have hw1 : IntKind.i64.wrap ((sb.size : Int) - (a : Int)) = (p : Int) := by rw [hsb]; rw [show ((bl : Int) - (a : Int)) = (p : Int) by omega]; exact IntWalk.i64_in _ (by omega)
      have hp0 : ¬ (p : Int) < 0 := by omega
      have ha0 : ¬ (a : Int) < 0 := by omega
      have hp9 : p ≤ 1048576 := by omega
      have ha9 : a ≤ 1048576 := by omega
      have hN9 : N ≤ 1048576 := by omega
      have HA := Lib.hid ha
      clear ha
      have hs9 : sb.size ≤ 1048576 := by omega
      by_cases him : i < m
      · obtain ⟨bk, ok, rfl, q0⟩ := HKC.out him
        by_cases hkk : 0 < kk
        · have hw2 : IntKind.i64.wrap ((p : Int) + min kk (a : Int)) = (N : Int) := by rw [hke]; rw [show ((p : Int) + min kk (a : Int)) = ((p + min kk.toNat a : Nat) : Int) by omega]; exact IntWalk.i64_in _ (by omega)
          clear hsb hkl hke hpl hxl HKC
          go_wp2
          go_quiet (fail)
          go_wp2
          go_quiet (fail)
          go_wp2_with (at_builtin; refine wpList_append_own _ rfl (.tmp 106) (.tmp 113) 42 rfl w7.heap.size 9 i0 (.string ⟨#[]⟩) 1 16 Try.underlying42 hi0 yz0 yz1 yz2 rfl (by decide) _ _ _ rfl (hown.alloc _) ⟨wr.heap.size, 0, none⟩ 1 1 [.string (B xt)] rfl rfl (cell_one_new _ _ _) (one_str _) (by omega) (by omega) (by simp; omega) ?_; intro v3 w3' hown3 hgrow3 _)
          have hB4 : Below w7.heap.size w7 w3' := ((below_drewN hb1 _).alloc hsz1 _).grown hgrow3 (by simp; omega) (fun j hj => (hown.lt j hj).1)
          go_roundg (l - (i + 1))
          case measure => omega
          case rel => exact ⟨i + 1, by go_num, by omega, by omega, by rw [HT.out]; exact hown3, hB4⟩
        · have hNp : N = p := by omega
          subst hNp
          clear hsb hkl hke hpl hxl HKC
          go_wp2
          go_quiet (fail)
          go_wp2_with (at_builtin; refine wpList_append_own _ rfl (.tmp 106) (.tmp 113) 42 rfl w7.heap.size 9 i0 (.string ⟨#[]⟩) 1 16 Try.underlying42 hi0 yz0 yz1 yz2 rfl (by decide) _ _ _ rfl (hown.alloc _) ⟨wr.heap.size, 0, none⟩ 1 1 [.string (B xt)] rfl rfl (cell_one_new _ _ _) (one_str _) (by omega) (by omega) (by simp; omega) ?_; intro v3 w3' hown3 hgrow3 _)
          have hB4 : Below w7.heap.size w7 w3' := ((below_drewN hb1 _).alloc hsz1 _).grown hgrow3 (by simp; omega) (fun j hj => (hown.lt j hj).1)
          go_roundg (l - (i + 1))
          case measure => omega
          case rel => exact ⟨i + 1, by go_num, by omega, by omega, by rw [HT.out]; exact hown3, hB4⟩
      · have hk0 := hkd.out (by omega)
        subst hk0
        have hNp : N = p := by omega
        subst hNp
        clear hsb hkl hke hpl hxl HKC
        go_wp2
        go_quiet (fail)
        go_wp2_with (at_builtin; refine wpList_append_own _ rfl (.tmp 106) (.tmp 113) 42 rfl w7.heap.size 9 i0 (.string ⟨#[]⟩) 1 16 Try.underlying42 hi0 yz0 yz1 yz2 rfl (by decide) _ _ _ rfl (hown.alloc _) ⟨wr.heap.size, 0, none⟩ 1 1 [.string (B xt)] rfl rfl (cell_one_new _ _ _) (one_str _) (by omega) (by omega) (by simp; omega) ?_; intro v3 w3' hown3 hgrow3 _)
        have hB4 : Below w7.heap.size w7 w3' := ((below_drewN hb1 _).alloc hsz1 _).grown hgrow3 (by simp; omega) (fun j hj => (hown.lt j hj).1)
        go_roundg (l - (i + 1))
        case measure => omega
        case rel => exact ⟨i + 1, by go_num, by omega, by omega, by rw [HT.out]; exact hown3, hB4⟩
    · obtain rfl : i = l := by omega
      have hl2 : (lose ks s.files).length = i := (lose_length ks s.files).trans HL.out
      have e : (bytesOf (lose ks s.files)).take i = bytesOf (lose ks s.files) := List.take_of_length_le (by rw [bytesOf_length, hl2]; exact Nat.le_refl _)
      rw [e] at hown
      clear e
      obtain ⟨A11, c11, rfl, hc11, hc12⟩ := own_form2 hown
      have L11 := Lib.hid (LRd.of_own hown)
      have hbl : i = (bytesOf (lose ks s.files)).length := by rw [bytesOf_length, hl2]
      have hnl : i = (namesOf s.files).length := by rw [namesOf_length, HL.out]
      have hI := HS.out.below hb1
      have C8 := Lib.hid ((names_has ⟨F2, hI⟩).mono fun e w' h => h.len hl2 (by show strV (namesOf (lose ks s.files)) = _; rw [namesOf_lose]))
      have L3' := Lib.hid (L3.out.below hb1)
      have HBr : Below w.heap.size w wr := HB7.trans (hb1.mono hsz7')
      have hpl : Hid (∀ x ∈ s.files, x.plat ≤ x.bytes.length) := HP
      have HL2 := Lib.hid hl2
      have HBL := Lib.hid hbl
      have HNL := Lib.hid hnl
      clear hl2 hbl hnl hown L3 L4 L5 H7 hb1
      go_wp2_with fail
      go_at_call 18
      refine C8.out.mono ?_
      rintro e w8 ⟨A8, c8, rfl, a1, a2, a3, a4⟩
      clear C8
      have hs8 := a4.size
      have C9 := Lib.hid (same_yes A8 A3 c8 c3 i wr.heap.size w8.heap.size w2.heap.size w5.heap.size (namesOf s.files) w8 HNL.out (by omega) (Nat.le_refl _) (by omega) a3 (L3'.out.below a4))
      have hI8 := hI.below a4
      go_wp2_with fail
      go_at_call 24
      refine C9.out.mono ?_
      rintro e w9 ⟨rfl, b4⟩
      clear C9
      have hs9 := b4.size
      have hI9 := hI8.below b4
      have C10 := Lib.hid ((held_has (show (downUp s ks).off = false from rfl) ⟨F2, hI9⟩).mono fun e w' h => h.len (m := i) HL2.out rfl)
      go_wp2_with fail
      go_at_call 26
      refine C10.out.mono ?_
      rintro e w10 ⟨A10, c10, rfl, d1, d2, d3, d4⟩
      clear C10
      have hs10 := d4.size
      have hI10 := hI9.below d4
      have L11' := ((L11.out.below a4).below b4).below d4
      have C11 := Lib.hid (same_yes A10 A11 c10 c11 i w9.heap.size w10.heap.size w7.heap.size wr.heap.size (bytesOf (lose ks s.files)) w10 HBL.out (by omega) (Nat.le_refl _) (by omega) d3 L11')
      go_wp2_with fail
      go_at_call 24
      refine C11.out.mono ?_
      rintro e w11 ⟨rfl, e4⟩
      clear C11
      have hs11 := e4.size
      have hI11 := hI10.below e4
      have L11'' := L11'.below e4
      have HB11 : Below w.heap.size w w11 := (((HBr.trans (a4.mono (by omega))).trans (b4.mono (by omega))).trans (d4.mono (by omega))).trans (e4.mono (by omega))
      have CC := crash_gone none 0 0 0 [] (by decide) (fun h0 => absurd h0 (by decide)) (wb := w11) (F := F2) (fun b hb => .inr (Nat.zero_le _)) (Wentz.refl hI11)
      rw [down_crash (show (downUp s ks).off = false from rfl)] at CC
      have CC := Lib.hid CC
      clear hI hI8 hI9 hI10 hI11 L11 L11' a3 a4 b4 d3 d4 e4 L3'
      go_wp2_with fail
      go_at_call 27
      refine CC.out.mono ?_
      rintro e w12 ⟨rfl, W12⟩
      clear CC
      have CT := start_gone (by show s.starts + 1 ≤ 1000000; have := HST.out; omega) W12
      rw [down_start] at CT
      have CT := Lib.hid CT
      clear W12
      go_wp2_with fail
      go_at_call 28
      refine CT.out.mono ?_
      rintro e w13 ⟨rfl, W13⟩
      clear CT
      have hs13 := W13.1.size
      have hfe : (downUp (downUp s ks) []).files = lose ks s.files := lose_again ks [] s.files HP.out
      have L13 := L11''.went W13 (fun b hb => .inl (HF2.out b hb))
      have HB13 : Below w.heap.size w w13 := HB11.trans (W13.below (by omega) HFn.out)
      have C14 := Lib.hid ((held_has (show (downUp (downUp s ks) []).off = false from rfl) W13.has).mono fun e w' h => h.len (m := i) (by rw [hfe]; exact HL2.out) (ys := strV (bytesOf (lose ks s.files))) (by rw [hfe]))
      clear W13 L11''
      go_wp2_with fail
      go_at_call 26
      refine C14.out.mono ?_
      rintro e w14 ⟨A14, c14, rfl, f1, f2, f3, f4⟩
      clear C14
      have hs14 := f4.size
      have L14 := L13.below f4
      have C15 := Lib.hid (same_yes A14 A11 c14 c11 i w13.heap.size w14.heap.size w7.heap.size wr.heap.size (bytesOf (lose ks s.files)) w14 HBL.out (by omega) (Nat.le_refl _) (by omega) f3 L14)
      have HB14 : Below w.heap.size w w14 := HB13.trans (f4.mono (by omega))
      clear L13 L14 f3 f4
      go_wp2_with fail
      go_at_call 24
      refine C15.out.mono ?_
      rintro e w15 ⟨rfl, g4⟩
      clear C15
      have HB15 : Below w.heap.size w w15 := HB14.trans (g4.mono HB14.size)
      go_wp2_with fail
      go_at_call 16
      refine (hdoes.out _).mono ?_
      rintro e w16 ⟨rfl, k4⟩
      go_wp2
      go_ret
      exact ⟨rfl, HB15.trans (k4.mono HB15.size)⟩
end Go.Proofs.Ytpdegpppeepphaa.fil
