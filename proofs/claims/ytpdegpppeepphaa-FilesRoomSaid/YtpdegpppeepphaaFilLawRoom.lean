/- FilesRoom, walked. -/
import Derived.Test.YtpdegpppeepphaaFilGo
import Derived.BigQuiet
namespace Go.Proofs.Ytpdegpppeepphaa.fil
open Go.RowKit Go.Lib Go.Maps Go.WideMaps
set_option linter.unusedVariables false
set_option linter.unusedSimpArgs false
set_option linter.unnecessarySimpa false
set_option linter.unusedSectionVars false

theorem stroke_full {s : St} {e : Int} {early : Bool} {t : List Fl} (h : (stroke s e early t).1 = 50) : (stroke s e early t).2 = s := by
  unfold stroke at h ⊢
  split
  · rfl
  · rename_i h1
    rw [if_neg h1] at h
    split
    · rename_i h2
      rw [if_pos h2] at h
      split at h <;> cases h
    · rfl
theorem step_full {s : St} {d : Dt} (h : (step s d).1 = 50) : (step s d).2 = s := by
  unfold step sSync sTrunc sRename sRemove sAppend at h ⊢
  split
  · rename_i h1; rw [if_pos h1] at h; exact stroke_full h
  rename_i h1; rw [if_neg h1] at h
  split
  · rename_i h1; rw [if_pos h1] at h; exact stroke_full h
  rename_i h1; rw [if_neg h1] at h
  split
  · rename_i h1; rw [if_pos h1] at h; exact stroke_full h
  rename_i h1; rw [if_neg h1] at h
  split
  · rename_i h1; rw [if_pos h1] at h; exact stroke_full h
  rename_i h1; rw [if_neg h1] at h
  split
  · rename_i h1; rw [if_pos h1] at h; unfold sCrash at h; split at h <;> cases h
  rename_i h1; rw [if_neg h1] at h
  split
  · rename_i h1; rw [if_pos h1] at h; unfold sStart at h; split at h <;> cases h
  rename_i h1; rw [if_neg h1] at h
  split
  · rename_i h1; rw [if_pos h1] at h; unfold sFail at h; repeat' split at h
    all_goals cases h
  rename_i h1; rw [if_neg h1] at h
  exact stroke_full h

def ran (n : Nat) (ds : List Dt) : St := ds.foldl (fun s d => (step s d).2) (sNew n)
theorem ran_succ (n : Nat) (ds : List Dt) (i : Nat) (d : Dt) (h : ds[i]? = some d) : ran n (ds.take (i + 1)) = (step (ran n (ds.take i)) d).2 := by
  unfold ran
  rw [List.take_add_one, h, List.foldl_append]
  rfl
theorem ran_facts (n : Nat) (ds : List Dt) : (ran n ds).cap = n ∧ (ran n ds).starts ≤ ds.length := by
  have key : ∀ (l : List Dt) (s : St), s.cap = n → (l.foldl (fun s d => (step s d).2) s).cap = n ∧ (l.foldl (fun s d => (step s d).2) s).starts ≤ s.starts + l.length := by
    intro l
    induction l with
    | nil => intro s h2; exact ⟨h2, Nat.le_refl _⟩
    | cons d l ih =>
      intro s h2
      obtain ⟨b, c⟩ := ih (step s d).2 ((step_cap s d).trans h2)
      have := step_starts s d
      exact ⟨b, by simp only [List.foldl_cons, List.length_cons]; omega⟩
  have := key ds (sNew n) rfl
  exact ⟨this.1, by have h := this.2; simpa [sNew, ran] using h⟩

set_option maxHeartbeats 4000000 in
set_option maxRecDepth 100000 in
theorem law7 (size : Nat) (A : Option Addr) (c n : Nat) (ds : List Dt) (w : World) (hsz : size < 65536) (hn : n = ds.length) (hnm : n ≤ 9223372036854775807) (h : Dos w w.heap.size A ds)
    (hdoes : Hid (∀ W, Calls Try.prog 16 #[] W fun e w' => e = .returned (.bool true) ∧ Below W.heap.size W w')) :
    Calls Try.prog 7 #[.int .u16 size, .slice A n c] w fun e w' => e = .returned (.bool true) ∧ Below w.heap.size w w' := by
  have CM := Lib.hid (much_is A c n w.heap.size ds w hn hnm (Nat.le_refl _) h)
  have HN := Lib.hid hn
  have HD := Lib.hid h
  clear hn h
  have hw1 : IntKind.i64.wrap (1 + (size : Int)) = 1 + (size : Int) := IntWalk.i64_in _ (by omega)
  have HF := Lib.hid (ran_facts (1 + size))
  go_enter Try.func7, Try.ntmps7
  go_wp2_with fail
  go_at_call 9
  refine CM.out.mono ?_
  rintro e w1 ⟨he, hB1⟩
  clear CM
  rcases he with rfl | ⟨rfl, h120, h60⟩
  · go_wp2
    go_ret
    exact ⟨rfl, hB1⟩
  rw [← HN.out] at h120
  clear h60
  have hz1 := hB1.size
  have C0 := new_run (1 + size) w1 (by omega) (by omega)
  rw [show ((1 + size : Nat) : Int) = 1 + (size : Int) by omega] at C0
  have C0 := Lib.hid C0
  have HD1 := Lib.hid (HD.out.belowN hB1)
  have HB1 := Lib.hid hB1
  clear HD hB1
  go_wp2_with fail
  go_at_call 10
  refine C0.out.mono ?_
  rintro e w2 ⟨rfl, hR⟩
  clear C0
  go_wp2
  go_loopg [7] n (fun g s7 wr => ∃ i : Nat, s7 = .int .i64 i ∧ i ≤ n ∧ n - i ≤ g ∧ Run w1.heap.size w1 (w1.heap.size + 1) (ran (1 + size) (ds.take i)) wr)
  case atStart => exact ⟨0, rfl, Nat.zero_le _, by omega, by simpa [ran] using hR⟩
  case round =>
    obtain ⟨i, rfl, hi', hg, hRi⟩ := hrel
    clear hR
    have hB := hRi.below
    by_cases hlt : i < n
    · obtain ⟨d, hd⟩ : ∃ d, ds[i]? = some d := ⟨ds[i]'(by rw [← HN.out]; exact hlt), List.getElem?_eq_getElem _⟩
      have hdm := List.mem_of_getElem? hd
      have hok := HD1.out.ok d hdm
      have hfs := (HF.out (ds.take i)).2
      rw [List.length_take] at hfs
      have HS := Lib.hid (ran_succ (1 + size) ds i d hd)
      have hcap := (HF.out (ds.take (i + 1))).1
      rw [HS.out] at hcap
      generalize ran (1 + size) (ds.take i) = s at *
      obtain ⟨F, hF1, hF2⟩ := hRi.is
      have hFl := hF2.lt
      have C1 := Lib.hid (size_has hRi.has)
      have HRi := Lib.hid hRi
      have hrs := hRi.size
      clear hRi
      go_wp2_with fail
      go_at_call 20
      refine C1.out.mono ?_
      rintro e w3 ⟨rfl, a4⟩
      clear C1
      have hF3 := hF2.below a4
      have hz3 := a4.size
      have C2 := Lib.hid (names_has ⟨F, hF3⟩)
      generalize hl1 : s.files.length = l1 at *
      have HL1 := Lib.hid hl1
      clear hl1
      go_wp2_with fail
      go_at_call 18
      refine C2.out.mono ?_
      rintro e w4 ⟨A4, c4, rfl, b1, b2, b3, b4⟩
      clear C2
      have hF4 := hF3.below b4
      have hz4 := b4.size
      have hBw4 : Below w1.heap.size w1 w4 := (hB.trans (a4.mono hrs)).trans (b4.mono (by omega))
      have hDw := HD1.out.later hBw4 hz1
      obtain ⟨b, off, rfl, hb, g0, g1, g2, g3, g4, g5⟩ := hDw.at hd
      have hk := (hDw.lists d hdm).more (Nat.zero_le 0) hz1
      have C3 := with_is d 0 w1.heap.size w4 hok hk (fun b hb => .inr (hF1 b hb)) (by omega) hF4
      generalize hss : step s d = ss at *
      obtain ⟨z, s'⟩ := ss
      have hfull : z = 50 → s' = s := fun h => by
        have h1 : (step s d).1 = 50 := by rw [hss]; exact h
        have := step_full h1
        rw [hss] at this
        exact this
      have HFU := Lib.hid hfull
      have C3 := Lib.hid C3
      dsimp only at C3 hcap
      have HSS := Lib.hid hss
      unfold Dt.val at C3
      have HBW := Lib.hid hBw4
      clear hss hfull hDw hk hok hdm hd hB hF2 hF3 hF4 hBw4
      go_wp2_with fail
      go_at_call 12
      refine C3.out.mono ?_
      rintro e w5 ⟨rfl, W5⟩
      clear C3
      have hR5 : Run w1.heap.size w1 (w1.heap.size + 1) s' w5 := Run.went HBW.out (Nat.le_refl _) hF1 W5
      have hz5 := W5.1.size
      have L4 := Lib.hid (b3.went W5 (fun b hb => .inl (by have := hFl b hb; omega)))
      have hok5 := hR5.ok
      have hroom := hok5.room
      have hfew := hok5.few
      have HNM := Lib.hid hok5.nm
      have HRS := Lib.hid hok5.rise
      have C6 := Lib.hid (names_has hR5.has)
      have HR5 := Lib.hid hR5
      clear W5 hR5 b3 b4 a4 hFl hF1 hok5
      rw [hcap] at hroom
      generalize hl2 : s'.files.length = l2 at *
      have HL2 := Lib.hid hl2
      clear hl2
      go_wp2_with fail
      go_at_call 18
      refine C6.out.mono ?_
      rintro e w6 ⟨A6, c6, rfl, d1, d2, d3, d4⟩
      clear C6
      have hR6 := HR5.out.move d4
      have hz6 := d4.size
      have C7 := Lib.hid (fun W (hW : Below w6.heap.size w6 W) => size_has (hR6.move hW).has)
      go_upto_region 12 with (fail)
      go_cut [68] (fun s68 wx => s68 = .bool false ∧ Below w6.heap.size w6 wx)
      case first =>
        by_cases h50 : z = 50
        · obtain rfl := HFU.out h50
          subst h50
          have hll : l2 = l1 := by rw [← HL2.out, ← HL1.out]
          subst hll
          generalize ht : total s'.files = tt at *
          have htt : ¬ (1 + (size : Int)) < (tt : Int) := by omega
          have hll : ¬ (32 : Int) < (l2 : Int) := by omega
          have L4' := (L4.out.below d4)
          have C8 := Lib.hid (fun W (hW : Below w6.heap.size w6 W) => same_yes A4 A6 c4 c6 l2 w3.heap.size w4.heap.size w5.heap.size w6.heap.size (namesOf s'.files) W (by rw [namesOf_length, HL2.out]) (by omega) (by have := hW.size; omega) hW.size (L4'.below hW) (d3.below hW))
          go_wp2_with fail
          go_at_call 20
          refine (C7.out _ (Below.refl _ _)).mono ?_
          rintro e w7 ⟨rfl, e4⟩
          go_wp2_with fail
          go_at_call 24
          refine (C8.out _ e4).mono ?_
          rintro e w8 ⟨rfl, f4⟩
          have B8 := e4.trans (f4.mono e4.size)
          go_wp2_with fail
          go_at_call 20
          refine (C7.out _ B8).mono ?_
          rintro e w9 ⟨rfl, k4⟩
          go_wp2_with fail
          go_meet
          exact ⟨congrArg Value.bool (by simp only [Bool.or_eq_false_iff, decide_eq_false_iff_not]; omega), B8.trans (k4.mono B8.size)⟩
        · generalize ht : total s'.files = tt at *
          have htt : ¬ (1 + (size : Int)) < (tt : Int) := by omega
          have hll : ¬ (32 : Int) < (l2 : Int) := by omega
          go_wp2_with fail
          go_at_call 20
          refine (C7.out _ (Below.refl _ _)).mono ?_
          rintro e w7 ⟨rfl, e4⟩
          go_wp2_with fail
          go_meet
          exact ⟨congrArg Value.bool (by simp only [Bool.or_eq_false_iff, decide_eq_false_iff_not]; omega), e4⟩
      case rest =>
        obtain ⟨rfl, hB7⟩ := hcut
        clear C7
        have HR7 := Lib.hid (hR6.move hB7)
        have L6 := Lib.hid (d3.below hB7)
        have HS' : Hid (ran (1 + size) (ds.take (i + 1)) = s') := Lib.hid HS.out
        clear d3 d4 hR6 hB7 L4 HR5 HFU HSS HS HRi HBW hz3 hz4 hz5 hz6
        go_wp2
        go_loopg [12] l2 (fun g s12 wy => ∃ k : Nat, s12 = .int .i64 k ∧ k ≤ l2 ∧ l2 - k ≤ g ∧ Below wc.heap.size wc wy)
        case atStart => exact ⟨0, rfl, Nat.zero_le _, by omega, Below.refl _ _⟩
        case round =>
          obtain ⟨k, rfl, hk', hgk, hbk⟩ := hrel
          by_cases hlk : k < l2
          · obtain ⟨x, hx⟩ : ∃ x, s'.files[k]? = some x := ⟨s'.files[k]'(by rw [HL2.out]; exact hlk), List.getElem?_eq_getElem _⟩
            obtain ⟨hx1, hx2⟩ := isNm_le (HNM.out x (List.mem_of_getElem? hx))
            have hxs : (B x.name).size = x.name.length := B_size _
            obtain ⟨b6, o6, rfl, _, _, d6⟩ := (L6.out.below hbk) (by rw [strV_length, namesOf_length, HL2.out]; omega)
            have q6 : wr.cell? ⟨b6, o6 + k, none⟩ = some (.string (B x.name)) := d6 k _ (by simp [strV, namesOf, hx])
            have y1 : decide (((B x.name).size : Int) < 1) = false := decide_eq_false (by omega)
            have y2 : decide ((16 : Int) < ((B x.name).size : Int)) = false := decide_eq_false (by omega)
            by_cases hk0 : k = 0
            · subst hk0
              clear d6 hxs
              generalize B x.name = nx at *
              have q6' : wr.cell? ⟨b6, o6, none⟩ = some (.string nx) := q6
              clear q6
              go_wp2
              go_quiet (fail)
              go_wp2
              go_roundg (l2 - (0 + 1))
              case measure => omega
              case rel => exact ⟨0 + 1, by go_num, by omega, by omega, below_drewN hbk _⟩
            · obtain ⟨k, rfl⟩ : ∃ j, k = j + 1 := ⟨k - 1, by omega⟩
              obtain ⟨y, hy⟩ : ∃ y, s'.files[k]? = some y := ⟨s'.files[k]'(by rw [HL2.out]; omega), List.getElem?_eq_getElem _⟩
              have q7 : wr.cell? ⟨b6, o6 + k, none⟩ = some (.string (B y.name)) := d6 k _ (by simp [strV, namesOf, hy])
              have hwk : IntKind.i64.wrap (((k + 1 : Nat) : Int) - 1) = (k : Int) := by rw [show (((k + 1 : Nat) : Int) - 1) = (k : Int) by omega]; exact IntWalk.i64_in _ (by omega)
              have hgt : decide ((0 : Int) < ((k + 1 : Nat) : Int)) = true := decide_eq_true (by omega)
              have hbl : Op.bytesLess (B y.name).toList (B x.name).toList = true := by
                rw [Proofs.bytesLess_eq, Lib.toList_data, Lib.toList_data, list_B, list_B]
                refine decide_eq_true ?_
                obtain ⟨hi1, e1⟩ := List.getElem?_eq_some_iff.1 hy
                obtain ⟨hi2, e2⟩ := List.getElem?_eq_some_iff.1 hx
                rw [← e1, ← e2]
                exact List.pairwise_iff_getElem.1 HRS.out k (k + 1) hi1 hi2 (Nat.lt_succ_self k)
              clear d6 hxs
              generalize B x.name = nx at *
              generalize B y.name = ny at *
              go_wp2
              go_quiet (fail)
              go_wp2
              go_roundg (l2 - (k + 1 + 1))
              case measure => omega
              case rel => exact ⟨k + 1 + 1, by go_num, by omega, by omega, below_drewN hbk _⟩
          · obtain rfl : k = l2 := by omega
            have HRx := Lib.hid (HR7.out.move hbk)
            go_wp2
            go_roundg (n - (i + 1))
            case measure => omega
            case rel => exact ⟨i + 1, by go_num, by omega, by omega, by rw [HS'.out]; exact HRx.out⟩
    · have HRx := Lib.hid hRi
      have HBx : Below w.heap.size w wr := HB1.out.trans (hB.mono hz1)
      go_wp2_with fail
      go_at_call 16
      refine (hdoes.out _).mono ?_
      rintro e w9 ⟨rfl, k4⟩
      go_wp2
      go_ret
      exact ⟨rfl, HBx.trans (k4.mono HBx.size)⟩
end Go.Proofs.Ytpdegpppeepphaa.fil
