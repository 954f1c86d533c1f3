/- Marks: the law's Beyond, and its examples. -/
import Derived.Test.YtojcbjificodaaaMrkSet
namespace Go.Proofs.Ytojcbjificodaaa.mrk
open Go.RowKit Go.Lib pce sps
set_option linter.unusedVariables false
set_option linter.unusedSimpArgs false
set_option linter.unnecessarySimpa false
set_option linter.unusedSectionVars false

/-- Yes; or no, and they are few. -/
def BeyondSays (ts : List Ct) (many : Nat) (w : World) (e : Ending) (w' : World) : Prop :=
  (e = .returned (.bool true) ∨ (e = .returned (.bool false) ∧ ts.length ≤ many ∧ ∀ t ∈ ts, t.ins.length ≤ 100)) ∧ w = w'
set_option maxHeartbeats 2000000 in
set_option maxRecDepth 100000 in
theorem beyond_is (w : World) (F : Nat → Prop) (A : Option Addr) (n c : Nat) (ts : List Ct) (many : Nat) (hmany : many ≤ 1000) (hn : n = ts.length) (hb : n ≤ maxLen) (h : Cuts w F A ts) :
    Calls Try.prog 5 #[.slice A n c, .int .i64 many] w (BeyondSays ts many w) := by
  have HC := Lib.hid h
  have HN := Lib.hid hn
  unfold maxLen at hb
  clear h hn
  by_cases hm : many < n
  · go_enter Try.func5, Try.ntmps5
    go_wp2
    go_ret
    exact ⟨.inl rfl, rfl⟩
  go_enter Try.func5, Try.ntmps5
  go_wp2
  go_loopg [5] n (fun g s5 wr => ∃ k : Nat, k ≤ n ∧ n - k ≤ g ∧ s5 = .int .i64 k ∧ wr = w ∧ Hid (∀ t ∈ ts.take k, t.ins.length ≤ 100))
  case atStart => exact ⟨0, Nat.zero_le _, by omega, rfl, rfl, fun t ht => by simp at ht⟩
  case round =>
    obtain ⟨k, hk, hg, rfl, hwr, HE⟩ := hrel
    have hwr := hwr.symm
    subst hwr
    by_cases hlt : k < n
    · obtain ⟨t, ht⟩ : ∃ t, ts[k]? = some t := ⟨_, List.getElem?_eq_getElem (by rw [← HN.out]; exact hlt)⟩
      have HT := Lib.hid ht
      obtain ⟨b, off, rfl, _, _, g2⟩ := HC.out.at ht
      have hfew := (HC.out.each t (List.mem_of_getElem? ht)).few
      unfold maxLen at hfew
      obtain ⟨z, hz⟩ : ∃ z, t.ins.length = z := ⟨_, rfl⟩
      have HZ := Lib.hid hz
      rw [hz] at g2 hfew
      clear ht hz
      by_cases h1 : 100 < z
      · go_wp2
        go_ret
        exact ⟨.inl rfl, rfl⟩
      · go_wp2
        go_roundg (n - (k + 1))
        case measure => omega
        case rel =>
          refine ⟨k + 1, by omega, by omega, by go_num, rfl, fun t' ht' => ?_⟩
          obtain ⟨hkl, hkt⟩ := List.getElem?_eq_some_iff.1 HT.out
          rw [List.take_succ_eq_append_getElem hkl, List.mem_append, hkt] at ht'
          rcases ht' with ht' | ht'
          · exact HE.out t' ht'
          · rw [List.mem_singleton.1 ht', HZ.out]; omega
    · obtain rfl : k = n := by omega
      go_wp2
      go_ret
      exact ⟨.inr ⟨rfl, by rw [← HN.out]; omega, fun t ht => HE.out t (by rw [HN.out, List.take_length]; exact ht)⟩, rfl⟩
theorem ints_noM : Ints noM := fun i hi => by unfold noM; omega
theorem ints_a : Ints (upd noM 0 3) := fun i hi => by unfold upd noM; split <;> omega
theorem may3 : may (upd noM 0 3) 3 = true := by decide
theorem may2 : may (upd noM 0 3) 2 = false := by decide
set_option maxHeartbeats 4000000 in
set_option maxRecDepth 100000 in
theorem lives_is (w : World) : Calls Try.prog 6 #[] w fun e w' => e = .returned (.bool true) ∧ Below w.heap.size w w' := by
  have x1 : ln 5 2 1 3 = 7 := by decide
  have x2 : ln 3 2 1 3 = 0 := by decide
  have x3 : ln 2 2 1 3 = 2 := by decide
  go_enter Try.func6, Try.ntmps6
  have hS := At.new (w.alloc (.cells #[.string ⟨#[120]⟩, .string ⟨#[121]⟩, .string ⟨#[122]⟩] 9)) 30 #[.int .i64 2, .int .i64 1, .slice (some ⟨w.heap.size, 0, none⟩) 3 3]
  rw [World.size_alloc] at hS
  have hB0 : Below w.heap.size w ((w.alloc (.cells #[.string ⟨#[120]⟩, .string ⟨#[121]⟩, .string ⟨#[122]⟩] 9)).alloc (.cells #[.int .i64 2, .int .i64 1, .slice (some ⟨w.heap.size, 0, none⟩) 3 3] 30)) := ((Below.refl _ _).alloc (Nat.le_refl _) _).alloc (by simp) _
  have H0 := Lib.hid (And.intro hB0 hS)
  clear hB0 hS
  go_wp2_with fail
  go_at_call 10
  refine (line_is 5 2 1 _ 3 3 _ 7 x1 (by omega) (by omega) (by omega) (by omega) (by omega) (by omega) (by omega)).mono ?_
  rintro e v1 ⟨rfl, hv⟩
  have hb : Below w.heap.size w v1 := by rw [hv]; exact H0.out.1.alloc H0.out.1.size _
  have hs : At v1 (w.heap.size + 1) 30 #[.int .i64 2, .int .i64 1, .slice (some ⟨w.heap.size, 0, none⟩) 3 3] := by rw [hv]; exact H0.out.2.alloc _
  have H1 := Lib.hid (And.intro hb hs)
  obtain ⟨c0, c1, c2⟩ := three_at hs
  clear hb hs hv H0
  go_wp2_with fail
  go_at_call 10
  refine (line_is 3 2 1 _ 3 3 _ 0 x2 (by omega) (by omega) (by omega) (by omega) (by omega) (by omega) (by omega)).mono ?_
  rintro e v2 ⟨rfl, hv⟩
  have hb : Below w.heap.size w v2 := by rw [hv]; exact H1.out.1.alloc H1.out.1.size _
  have hs : At v2 (w.heap.size + 1) 30 #[.int .i64 2, .int .i64 1, .slice (some ⟨w.heap.size, 0, none⟩) 3 3] := by rw [hv]; exact H1.out.2.alloc _
  have H2 := Lib.hid (And.intro hb hs)
  obtain ⟨c0, c1, c2⟩ := three_at hs
  clear hb hs hv H1
  go_wp2_with fail
  go_at_call 10
  refine (line_is 2 2 1 _ 3 3 _ 2 x3 (by omega) (by omega) (by omega) (by omega) (by omega) (by omega) (by omega)).mono ?_
  rintro e v3 ⟨rfl, hv⟩
  have hb : Below w.heap.size w v3 := by rw [hv]; exact H2.out.1.alloc H2.out.1.size _
  have hs : At v3 (w.heap.size + 1) 30 #[.int .i64 2, .int .i64 1, .slice (some ⟨w.heap.size, 0, none⟩) 3 3] := by rw [hv]; exact H2.out.2.alloc _
  have H3 := Lib.hid (And.intro hb hs)
  obtain ⟨c0, c1, c2⟩ := three_at hs
  clear hb hs hv H2
  clear c0 c1 c2
  have HB := Lib.hid H3.out.1
  clear H3
  go_wp2_with (first | (refine wpList_buildA rfl rfl ?_) | fail "NONE")
  go_at_call 12
  refine (set_is noM 97 3 5 _ (upd noM 0 3) 0 (by unfold setM; rw [if_neg (by decide), if_neg (by decide)]) (by unfold setE; rw [if_neg (by decide), if_neg (by decide)]) (by omega) (by omega) (by omega) (by omega) (by omega)).mono ?_
  rintro e a1 ⟨rfl, hB1⟩
  have HB1 := Lib.hid (HB.out.trans (hB1.mono HB.out.size))
  clear hB1 HB
  go_wp2_with (first
    | (refine wpList_allocA rfl rfl ?_; intro b1 hz hA hB; have HA1 := Lib.hid hA; have HZ1 := Lib.hid hz; have HC1 := Lib.hid (HB1.out.trans (hB.mono HB1.out.size)); clear hA hB hz)
    | (refine wpList_storeA rfl (.tmp 8) (.tmp 38) rfl _ _ rfl rfl _ HA1.out ?_; intro d1 hA hO; have HM1 := Lib.hid hA; have HD1 := Lib.hid (HC1.out.trans (hO.below HB1.out.size)); clear hA hO)
    | (refine wpList_loadA rfl _ rfl _ rfl _ HM1.out ?_)
    | fail "NONE")
  go_at_call 12
  refine (set_is (upd noM 0 3) 97 3 2 _ noM 200 (by unfold setM; rw [if_neg (by decide), if_pos (by decide)]) (by unfold setE; rw [if_neg (by decide), if_pos (by decide)]) (by omega) (by omega) (by omega) (by omega) (by omega)).mono ?_
  rintro e a2 ⟨rfl, hB2⟩
  have HB2 := Lib.hid (HD1.out.trans (hB2.mono HD1.out.size))
  replace HM1 := Lib.hid (HM1.out.all hB2)
  clear hB2 HB1 HC1 HA1
  go_wp2_with (first
    | (refine wpList_allocA rfl rfl ?_; intro b2 hz hA hB; have HA2 := Lib.hid hA; have HZ2 := Lib.hid hz; have HC2 := Lib.hid (HB2.out.trans (hB.mono HB2.out.size)); have HN2 := Lib.hid (HM1.out.all hB); clear hA hB hz)
    | (refine wpList_storeA rfl (.tmp 10) (.tmp 43) rfl _ _ rfl rfl _ HA2.out ?_; intro d2 hA hO; have HM2 := Lib.hid (HN2.out.only hO (Nat.ne_of_lt HM1.out.lt)); have HD2 := Lib.hid (HC2.out.trans (hO.below HB2.out.size)); clear hA hO)
    | (refine wpList_loadA rfl _ rfl _ rfl _ HM2.out ?_)
    | fail "NONE")
  go_at_call 12
  refine (set_is (upd noM 0 3) 65 3 5 _ noM 202 (by unfold setM; rw [if_pos (by decide)]) (by unfold setE; rw [if_pos (by decide)]) (by omega) (by omega) (by omega) (by omega) (by omega)).mono ?_
  rintro e a3 ⟨rfl, hB3⟩
  have HB3 := Lib.hid (HD2.out.trans (hB3.mono HD2.out.size))
  replace HM2 := Lib.hid (HM2.out.all hB3)
  clear hB3 HB2 HC2 HA2
  go_wp2_with (first
    | (refine wpList_allocA rfl rfl ?_; intro b3 hz hA hB; have HA3 := Lib.hid hA; have HZ3 := Lib.hid hz; have HC3 := Lib.hid (HB3.out.trans (hB.mono HB3.out.size)); have HN3 := Lib.hid (HM2.out.all hB); clear hA hB hz)
    | (refine wpList_storeA rfl (.tmp 12) (.tmp 48) rfl _ _ rfl rfl _ HA3.out ?_; intro d3 hA hO; have HM3 := Lib.hid (HN3.out.only hO (Nat.ne_of_lt HM2.out.lt)); have HD3 := Lib.hid (HC3.out.trans (hO.below HB3.out.size)); clear hA hO)
    | (refine wpList_loadA rfl _ rfl _ rfl _ HM3.out ?_)
    | fail "NONE")
  go_at_call 13
  refine (get_is (upd noM 0 3) 97 _ 3 0 (by decide) (by decide) (by omega) ints_a).mono ?_
  rintro e a4 ⟨rfl, hB4⟩
  have HD4 := Lib.hid (HD3.out.trans (hB4.mono HD3.out.size))
  have HM4 := Lib.hid (HM3.out.all hB4)
  clear hB4
  go_wp2_with (first | (refine wpList_loadA rfl _ rfl _ rfl _ HM4.out ?_) | fail "NONE")
  go_at_call 13
  refine (get_is (upd noM 0 3) 98 _ 0 202 (by decide) (by decide) (by omega) ints_a).mono ?_
  rintro e a5 ⟨rfl, hB5⟩
  have HD5 := Lib.hid (HD4.out.trans (hB5.mono HD4.out.size))
  have HM5 := Lib.hid (HM4.out.all hB5)
  clear hB5
  go_wp2_with (first
    | (refine wpList_loadM rfl _ rfl _ rfl _ HM5.out ?_)
    | fail "NONE")
  go_at_call 9
  refine (check_is (upd noM 0 3) 3 _ true may3 ints_a (by omega) (by omega)).mono ?_
  rintro e a6 ⟨rfl, hB6⟩
  have HD6 := Lib.hid (HD5.out.trans (hB6.mono HD5.out.size))
  have HM6 := Lib.hid (HM5.out.all hB6)
  clear hB6
  go_wp2_with (first
    | (refine wpList_loadM rfl _ rfl _ rfl _ HM6.out ?_)
    | fail "NONE")
  go_at_call 9
  refine (check_is (upd noM 0 3) 2 _ false may2 ints_a (by omega) (by omega)).mono ?_
  rintro e a7 ⟨rfl, hB7⟩
  have HD7 := Lib.hid (HD6.out.trans (hB7.mono HD6.out.size))
  clear hB7
  go_wp2
  go_ret
  exact ⟨rfl, HD7.out⟩
end Go.Proofs.Ytojcbjificodaaa.mrk
