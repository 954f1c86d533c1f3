/- Splices: the document's Decode. -/
import Derived.Test.YtakckmelojobkaaGreatDoorSplDec2
import Derived.Test.YtakckmelojobkaaGreatDoorSplRef
namespace Go.Proofs.YtakckmelojobkaaGreatDoor.sps
open Go.RowKit Go.Lib pce
open num (getN getL putN putL MX atN retN atL ListSays strs')
set_option linter.unusedVariables false
set_option linter.unusedSimpArgs false
set_option linter.unnecessarySimpa false
set_option linter.unusedSectionVars false

theorem list_few (ts : List (List UInt8)) : ts.length ≤ (putL ts).length := by
  have h2 : ∀ (us : List (List UInt8)), us.length ≤ (us.flatMap num.putT).length := by
    intro us
    induction us with
    | nil => simp
    | cons t r ih =>
      rw [List.flatMap_cons, List.length_append, List.length_cons]
      have : 2 ≤ (num.putT t).length := by unfold num.putT; rw [List.length_append]; have := num.putN_len2 t.length; omega
      omega
  unfold putL
  rw [List.length_append]
  have := h2 ts
  omega
set_option maxHeartbeats 8000000 in
set_option maxRecDepth 100000 in
theorem refDecode_is (s : ByteArray) (w : World) (hs : s.size ≤ 100000) :
    Calls Tryz.prog 8 #[.string s] w (DecSays s.data.toList w) := by
  obtain ⟨l, hl⟩ : ∃ l, s.data.toList = l := ⟨_, rfl⟩
  have hsl : l.length = s.size := by rw [← hl]; exact num.size_list s
  obtain ⟨wb, hwb⟩ : ∃ wb, w.alloc (.cells #[.int .i64 0, .int .i64 0, .slice none 0 0] 24) = wb := ⟨_, rfl⟩
  have hX0 : Below w.heap.size w wb ∧ At wb w.heap.size 24 #[.int .i64 0, .int .i64 0, .slice none 0 0] ∧ w.heap.size + 1 ≤ wb.heap.size := by
    subst hwb
    exact ⟨(Below.refl _ _).alloc (Nat.le_refl _) _, At.new _ _ _, by simp⟩
  have HX := Lib.hid (fun (W : World) (hB : Below wb.heap.size wb W) => And.intro (hX0.1.trans (hB.mono hX0.1.size)) (hX0.2.1.same (hB.block _ hX0.2.1.lt)))
  have hzb := hX0.2.2
  have C1 := Lib.hid (num.refGetI21 s 0 wb (by omega))
  have HL := Lib.hid hl
  have HSL := Lib.hid hsl
  rw [hl, atN_zero] at C1
  rw [hl]
  clear hX0 hl hsl
  cases h1 : getN l with
  | none =>
    have HG : Hid (dec l = none) := Lib.hid (by unfold dec getS; rw [h1])
    rw [h1] at C1
    simp only [retN] at C1
    clear h1
    go_enter Tryz.func8, Tryz.ntmps8
    go_wp2_with fail
    go_at_call 19
    refine C1.out.mono ?_
    rintro e w1 ⟨rfl, hB1⟩
    have hX1 := Lib.hid (HX.out w1 hB1)
    clear hB1
    go_wp2_with (refine wpList_storeS rfl (.tmp 2) (.tmp 18) rfl w.heap.size 0 0 none 0 0 rfl rfl _ _ _ hX1.out.2 ?_; intro w2 hA2 hO2)
    obtain ⟨c0, c1, c2⟩ := three_at hA2
    refine bodyPost_ret (v := .tuple #[.agg #[.int .i64 0, .int .i64 0, .slice none 0 0], .int .i64 40]) (by simp [results, Tryz.results8, go_sem, c0, c1, c2]) rfl (DecSays.no HG.out (hX1.out.1.trans (hO2.below (Nat.le_refl _))))
  | some a =>
    rw [h1] at C1
    have ha := (num.getN_iff.1 h1).1
    have hpl := (num.getN_iff.1 h1).2.length_le
    obtain ⟨p, hp⟩ : ∃ p, (putN a).length = p := ⟨_, rfl⟩
    simp only [retN, Int.zero_add, hp] at C1
    rw [hp] at hpl
    have hps : p ≤ s.size := by rw [← HSL.out]; exact hpl
    have C2 := Lib.hid (fun (W : World) => num.refGetI21 s (p : Int) W (by omega))
    have e2 : atN s.data.toList (p : Int) = getN (l.drop p) := by rw [HL.out]; exact num.atN_at (by rw [HSL.out]; exact hps)
    rw [e2] at C2
    have hp' := Lib.hid hp
    have H1 := Lib.hid h1
    have ha' : a ≤ 9223372036854775807 := ha
    clear e2 h1 hp ha
    cases h2 : getN (l.drop p) with
    | none =>
      have HG : Hid (dec l = none) := Lib.hid (by unfold dec getS; rw [H1.out]; simp only; rw [hp'.out, h2])
      rw [h2] at C2
      simp only [retN] at C2
      clear h2
      go_enter Tryz.func8, Tryz.ntmps8
      go_wp2_with fail
      go_at_call 19
      refine C1.out.mono ?_
      rintro e w1 ⟨rfl, hB1⟩
      have HB1 := Lib.hid hB1
      clear hB1
      go_wp2_with fail
      go_at_call 19
      refine (C2.out w1).mono ?_
      rintro e w2 ⟨rfl, hB2⟩
      have hX2 := Lib.hid (HX.out w2 (HB1.out.trans (hB2.mono HB1.out.size)))
      clear hB2 HB1
      go_wp2_with (refine wpList_storeS rfl (.tmp 2) (.tmp 28) rfl w.heap.size 0 0 none 0 0 rfl rfl _ _ _ hX2.out.2 ?_; intro w3 hA3 hO3)
      obtain ⟨c0, c1, c2⟩ := three_at hA3
      refine bodyPost_ret (v := .tuple #[.agg #[.int .i64 0, .int .i64 0, .slice none 0 0], .int .i64 40]) (by simp [results, Tryz.results8, go_sem, c0, c1, c2]) rfl (DecSays.no HG.out (hX2.out.1.trans (hO3.below (Nat.le_refl _))))
    | some d =>
      rw [h2] at C2
      have hd := (num.getN_iff.1 h2).1
      have hql := (num.getN_iff.1 h2).2.length_le
      obtain ⟨q, hq⟩ : ∃ q, (putN d).length = q := ⟨_, rfl⟩
      simp only [retN, hq] at C2
      rw [hq, List.length_drop] at hql
      have hqs : p + q ≤ s.size := by rw [← HSL.out]; have := HSL.out; omega
      have e3 : atL s.data.toList ((p : Int) + q) = getL (l.drop (p + q)) := by
        rw [HL.out]
        unfold atL
        rw [if_pos (by have := HSL.out; omega), show ((p : Int) + (q : Int)).toNat = p + q by omega]
      have C3 := Lib.hid (fun (W : World) => num.refGetList25 s ((p : Int) + q) W hs)
      unfold ListSays at C3
      rw [e3] at C3
      have hq' := Lib.hid hq
      have H2 := Lib.hid h2
      have hd' : d ≤ 9223372036854775807 := hd
      clear e3 h2 hq hd
      cases h3 : getL (l.drop (p + q)) with
      | none =>
        have HG : Hid (dec l = none) := Lib.hid (by unfold dec getS; rw [H1.out]; simp only; rw [hp'.out, H2.out]; simp only; rw [hq'.out, h3])
        rw [h3] at C3
        simp only at C3
        clear h3
        go_enter Tryz.func8, Tryz.ntmps8
        go_wp2_with fail
        go_at_call 19
        refine C1.out.mono ?_
        rintro e w1 ⟨rfl, hB1⟩
        have HB1 := Lib.hid hB1
        clear hB1
        go_wp2_with fail
        go_at_call 19
        refine (C2.out w1).mono ?_
        rintro e w2 ⟨rfl, hB2⟩
        have HB2 := Lib.hid (HB1.out.trans (hB2.mono HB1.out.size))
        clear hB2 HB1
        go_wp2_with fail
        go_at_call 20
        refine (C3.out w2).mono ?_
        rintro e w3 ⟨hB3, rfl⟩
        have HB3 := Lib.hid (HB2.out.trans (hB3.mono HB2.out.size))
        obtain ⟨w4, hw4⟩ : ∃ w4, w3.alloc (.cells #[.int .i64 a, .int .i64 d, .slice none 0 0] 24) = w4 := ⟨_, rfl⟩
        have hB4 : Below w3.heap.size w3 w4 := by rw [← hw4]; exact (Below.refl _ _).alloc (Nat.le_refl _) _
        have hX4 := Lib.hid (HX.out w4 (HB3.out.trans (hB4.mono HB3.out.size)))
        clear hB3 HB2 HB3 hB4
        go_wp2_with (first
          | (refine wpList_storeL rfl (.tmp 9) (.tmp 39) rfl w3 _ _ _ rfl a d none 0 0 (by first | rfl | simp [Act.eval, Act.put]) (by first | rfl | simp [Act.eval, Act.put]) ?_; rw [hw4])
          | (refine wpList_storeS rfl (.tmp 2) (.tmp 53) rfl w.heap.size 0 0 none 0 0 (by first | rfl | simp [Act.eval, Act.put]) (by first | rfl | simp [Act.eval, Act.put]) _ _ _ hX4.out.2 ?_; intro w5 hA5 hO5)
          | fail "NONE")
        obtain ⟨c0, c1, c2⟩ := three_at hA5
        refine bodyPost_ret (v := .tuple #[.agg #[.int .i64 0, .int .i64 0, .slice none 0 0], .int .i64 40]) (by simp [results, Tryz.results8, go_sem, c0, c1, c2]) rfl (DecSays.no HG.out (hX4.out.1.trans (hO5.below (Nat.le_refl _))))
      | some ts =>
        obtain ⟨k, hk⟩ : ∃ k, chk (ts.map B) = k := ⟨_, rfl⟩
        obtain ⟨N, hN⟩ : ∃ N, (enc a d ts).length = N := ⟨_, rfl⟩
        have hE : Hid ((p : Int) + q + (putL ts).length = (N : Nat)) := Lib.hid (by rw [← hN, enc_len, hp'.out, hq'.out]; omega)
        have hgs : getS l = some (a, d, ts) := by unfold getS; rw [H1.out]; simp only; rw [hp'.out, H2.out]; simp only; rw [hq'.out, h3]
        have HD : Hid (dec l = if l.length = N ∧ k = 0 then some (a, d, ts) else none) := Lib.hid (by unfold dec; rw [hgs]; simp only; rw [hN, hk])
        have hts : ts.length ≤ N := by rw [← hN, enc_len]; have := list_few ts; omega
        have hNs : N ≤ s.size := by rw [← hN, ← HSL.out]; exact (getS_pre hgs).2.2.length_le
        have HK := Lib.hid hk
        have HZ := Lib.hid (show ∀ z ∈ ts.map B, z.size ≤ maxLen from fun z hz => by
          obtain ⟨t, ht, rfl⟩ := List.mem_map.1 hz
          rw [B_size]
          have h4 := (num.getL_iff.1 h3).2.1 t ht
          unfold MX at h4
          unfold maxLen
          omega)
        rw [h3] at C3
        simp only at C3
        clear h3 hgs hN hk
        by_cases heq : N = s.size
        · subst heq
          by_cases hk0 : k = 0
          · subst hk0
            have HG : Hid (dec l = some (a, d, ts)) := Lib.hid (by rw [HD.out, if_pos ⟨HSL.out, rfl⟩])
            go_enter Tryz.func8, Tryz.ntmps8
            go_wp2_with fail
            go_at_call 19
            refine C1.out.mono ?_
            rintro e w1 ⟨rfl, hB1⟩
            have HB1 := Lib.hid hB1
            clear hB1
            go_wp2_with fail
            go_at_call 19
            refine (C2.out w1).mono ?_
            rintro e w2 ⟨rfl, hB2⟩
            have HB2 := Lib.hid (HB1.out.trans (hB2.mono HB1.out.size))
            clear hB2 HB1
            go_wp2_with fail
            go_at_call 20
            refine (C3.out w2).mono ?_
            rintro e w3 ⟨hB3, A3, c3, rfl, ho3, _⟩
            rw [hE.out]
            have hz2 : wb.heap.size ≤ w2.heap.size := HB2.out.size
            have HB3 := Lib.hid (HB2.out.trans (hB3.mono HB2.out.size))
            obtain ⟨w4, hw4⟩ : ∃ w4, w3.alloc (.cells #[.int .i64 a, .int .i64 d, .slice A3 ts.length c3] 24) = w4 := ⟨_, rfl⟩
            have hB4 : Below w3.heap.size w3 w4 := by rw [← hw4]; exact (Below.refl _ _).alloc (Nat.le_refl _) _
            have hA4 : At w4 w3.heap.size 24 #[.int .i64 a, .int .i64 d, .slice A3 ts.length c3] := by rw [← hw4]; exact At.new _ _ _
            have HB4 := Lib.hid (HB3.out.trans (hB4.mono HB3.out.size))
            have HA4 := Lib.hid hA4
            have HO4 := Lib.hid (own_keep (row_lift ho3 (show w.heap.size + 1 ≤ w2.heap.size by omega)) hB4)
            obtain ⟨f0, f1, f2⟩ := three_at hA4
            clear hB3 hB4 hA4 ho3 HB2 HB3
            go_wp2_with (first
              | (refine wpList_storeL rfl (.tmp 9) (.tmp 39) rfl w3 _ _ _ rfl a d A3 ts.length c3 (by first | rfl | simp [Act.eval, Act.put]) (by first | rfl | simp [Act.eval, Act.put]) ?_; rw [hw4])
              | fail "NONE")
            go_at_call 15
            refine (refCheck_is a d A3 ts.length c3 (ts.map B) w4 0 (by rw [chkS_nat]; exact HK.out) (by omega) (by omega) (by omega) (by omega) (by rw [List.length_map]) (by omega) HZ.out (VRd.srd (VRd.of_own HO4.out))).mono ?_
            rintro e w5 ⟨rfl, hB5⟩
            have HA5 := HA4.out.same (hB5.block _ HA4.out.lt)
            have hX5 := Lib.hid (HX.out w5 (HB4.out.trans (hB5.mono HB4.out.size)))
            have HO5 := Lib.hid (own_keep HO4.out hB5)
            obtain ⟨f0, f1, f2⟩ := three_at HA5
            clear hB5 HA5 HA4 HB4 HO4 hw4
            go_wp2_with (first
              | (refine wpList_storeS rfl (.tmp 2) (.tmp 54) rfl w.heap.size a d A3 ts.length c3 (by first | rfl | simp [Act.eval, Act.put]) (by first | rfl | simp [Act.eval, Act.put]) _ _ _ hX5.out.2 ?_; intro w6 hA6 hO6)
              | fail "NONE")
            obtain ⟨c0, c1', c2⟩ := three_at hA6
            refine bodyPost_ret (v := .tuple #[.agg #[.int .i64 a, .int .i64 d, .slice A3 ts.length c3], .int .i64 0]) (by simp [results, Tryz.results8, go_sem, c0, c1', c2]) rfl ⟨hX5.out.1.trans (hO6.below (Nat.le_refl _)), ?_⟩
            rw [HG.out]
            exact ⟨A3, c3, rfl, row_lift (own_same HO5.out fun b hb => hO6.block b (by have := (HO5.out.lt b hb).1; omega)) (by omega)⟩
          · have HG : Hid (dec l = none) := Lib.hid (by rw [HD.out, if_neg (fun h => hk0 h.2)])
            have hqb : (k == 0) = false := by simpa using hk0
            have hqn : (k != 0) = true := by rw [bne, hqb]; rfl
            clear hk0
            go_enter Tryz.func8, Tryz.ntmps8
            go_wp2_with fail
            go_at_call 19
            refine C1.out.mono ?_
            rintro e w1 ⟨rfl, hB1⟩
            have HB1 := Lib.hid hB1
            clear hB1
            go_wp2_with fail
            go_at_call 19
            refine (C2.out w1).mono ?_
            rintro e w2 ⟨rfl, hB2⟩
            have HB2 := Lib.hid (HB1.out.trans (hB2.mono HB1.out.size))
            clear hB2 HB1
            go_wp2_with fail
            go_at_call 20
            refine (C3.out w2).mono ?_
            rintro e w3 ⟨hB3, A3, c3, rfl, ho3, _⟩
            rw [hE.out]
            have HB3 := Lib.hid (HB2.out.trans (hB3.mono HB2.out.size))
            obtain ⟨w4, hw4⟩ : ∃ w4, w3.alloc (.cells #[.int .i64 a, .int .i64 d, .slice A3 ts.length c3] 24) = w4 := ⟨_, rfl⟩
            have hB4 : Below w3.heap.size w3 w4 := by rw [← hw4]; exact (Below.refl _ _).alloc (Nat.le_refl _) _
            have hA4 : At w4 w3.heap.size 24 #[.int .i64 a, .int .i64 d, .slice A3 ts.length c3] := by rw [← hw4]; exact At.new _ _ _
            have HB4 := Lib.hid (HB3.out.trans (hB4.mono HB3.out.size))
            have HO4 := Lib.hid (own_keep ho3 hB4)
            obtain ⟨f0, f1, f2⟩ := three_at hA4
            clear hB3 hB4 hA4 ho3 HB2 HB3
            go_wp2_with (first
              | (refine wpList_storeL rfl (.tmp 9) (.tmp 39) rfl w3 _ _ _ rfl a d A3 ts.length c3 (by first | rfl | simp [Act.eval, Act.put]) (by first | rfl | simp [Act.eval, Act.put]) ?_; rw [hw4])
              | fail "NONE")
            go_at_call 15
            refine (refCheck_is a d A3 ts.length c3 (ts.map B) w4 k (by rw [chkS_nat]; exact HK.out) (by omega) (by omega) (by omega) (by omega) (by rw [List.length_map]) (by omega) HZ.out (VRd.srd (VRd.of_own HO4.out))).mono ?_
            rintro e w5 ⟨rfl, hB5⟩
            have hX5 := Lib.hid (HX.out w5 (HB4.out.trans (hB5.mono HB4.out.size)))
            clear hB5 HB4 HO4 hw4 f0 f1 f2
            go_wp2_with (first
              | (refine wpList_storeS rfl (.tmp 2) (.tmp 53) rfl w.heap.size 0 0 none 0 0 (by first | rfl | simp [Act.eval, Act.put]) (by first | rfl | simp [Act.eval, Act.put]) _ _ _ hX5.out.2 ?_; intro w6 hA6 hO6)
              | fail "NONE")
            obtain ⟨c0, c1', c2⟩ := three_at hA6
            refine bodyPost_ret (v := .tuple #[.agg #[.int .i64 0, .int .i64 0, .slice none 0 0], .int .i64 40]) (by simp [results, Tryz.results8, go_sem, c0, c1', c2]) rfl (DecSays.no HG.out (hX5.out.1.trans (hO6.below (Nat.le_refl _))))
        · have HG : Hid (dec l = none) := Lib.hid (by rw [HD.out, if_neg (fun h => heq (by rw [← HSL.out]; exact h.1.symm))])
          have hqb : ((N : Int) == (s.size : Int)) = false := by simpa using fun h : (N : Int) = s.size => heq (by omega)
          have hqn : ((N : Int) != (s.size : Int)) = true := by rw [bne, hqb]; rfl
          go_enter Tryz.func8, Tryz.ntmps8
          go_wp2_with fail
          go_at_call 19
          refine C1.out.mono ?_
          rintro e w1 ⟨rfl, hB1⟩
          have HB1 := Lib.hid hB1
          clear hB1
          go_wp2_with fail
          go_at_call 19
          refine (C2.out w1).mono ?_
          rintro e w2 ⟨rfl, hB2⟩
          have HB2 := Lib.hid (HB1.out.trans (hB2.mono HB1.out.size))
          clear hB2 HB1
          go_wp2_with fail
          go_at_call 20
          refine (C3.out w2).mono ?_
          rintro e w3 ⟨hB3, A3, c3, rfl, ho3, _⟩
          rw [hE.out]
          have HB3 := Lib.hid (HB2.out.trans (hB3.mono HB2.out.size))
          obtain ⟨w4, hw4⟩ : ∃ w4, w3.alloc (.cells #[.int .i64 a, .int .i64 d, .slice A3 ts.length c3] 24) = w4 := ⟨_, rfl⟩
          have hB4 : Below w3.heap.size w3 w4 := by rw [← hw4]; exact (Below.refl _ _).alloc (Nat.le_refl _) _
          have hX4 := Lib.hid (HX.out w4 (HB3.out.trans (hB4.mono HB3.out.size)))
          clear hB3 hB4 ho3 HB2 HB3
          go_wp2_with (first
            | (refine wpList_storeL rfl (.tmp 9) (.tmp 39) rfl w3 _ _ _ rfl a d A3 ts.length c3 (by first | rfl | simp [Act.eval, Act.put]) (by first | rfl | simp [Act.eval, Act.put]) ?_; rw [hw4])
            | (refine wpList_storeS rfl (.tmp 2) (.tmp 53) rfl w.heap.size 0 0 none 0 0 (by first | rfl | simp [Act.eval, Act.put]) (by first | rfl | simp [Act.eval, Act.put]) _ _ _ hX4.out.2 ?_; intro w5 hA5 hO5)
            | fail "NONE")
          obtain ⟨c0, c1', c2⟩ := three_at hA5
          refine bodyPost_ret (v := .tuple #[.agg #[.int .i64 0, .int .i64 0, .slice none 0 0], .int .i64 40]) (by simp [results, Tryz.results8, go_sem, c0, c1', c2]) rfl (DecSays.no HG.out (hX4.out.1.trans (hO5.below (Nat.le_refl _))))
end Go.Proofs.YtakckmelojobkaaGreatDoor.sps
