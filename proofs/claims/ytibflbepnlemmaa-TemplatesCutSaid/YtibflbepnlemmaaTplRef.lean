/- Templates: the document's answers. -/
import Derived.Test.YtibflbepnlemmaaTplMost
namespace Go.Proofs.Ytibflbepnlemmaa.tpl
open Go.RowKit Go.Lib
set_option linter.unusedVariables false
set_option linter.unusedSimpArgs false
set_option linter.unnecessarySimpa false
set_option linter.unusedSectionVars false

theorem drop_one (l : List UInt8) (i : Nat) (h : i < l.length) : l.drop i = l.getD i 0 :: l.drop (i + 1) := by
  have e1 : l.getD i 0 = l[i] := by simp [List.getD, List.getElem?_eq_getElem h]
  rw [e1, List.drop_eq_getElem_cons h]
theorem byte_eq {a c : UInt8} {n : Nat} (hc : c.toNat = n) : ((a.toNat : Int) = (n : Int)) ↔ a = c := by
  constructor
  · intro h; exact UInt8.toNat_inj.1 (by omega)
  · intro h; subst h; omega
theorem byte_yes (a : UInt8) (h : a = 92) : ((a.toNat : Int) == 92) = true := by subst h; rfl
theorem byte_no {a : UInt8} (h : a ≠ 92) : ((a.toNat : Int) == 92) = false := beq_eq_false_iff_ne.2 fun e => h (UInt8.toNat_inj.1 (by show a.toNat = 92; omega))
theorem byte_no38 {a : UInt8} (h : a ≠ 38) : ((a.toNat : Int) == 38) = false := beq_eq_false_iff_ne.2 fun e => h (UInt8.toNat_inj.1 (by show a.toNat = 38; omega))
theorem byte_no110 {a : UInt8} (h : a ≠ 110) : ((a.toNat : Int) == 110) = false := beq_eq_false_iff_ne.2 fun e => h (UInt8.toNat_inj.1 (by show a.toNat = 110; omega))

/-- The error's number. -/
def okE (l : List UInt8) : Int := if ok l then 0 else 110
set_option maxHeartbeats 1000000 in
set_option maxRecDepth 100000 in
theorem refCheck_is (l : List UInt8) (w : World) (hl : l.length ≤ 1000000) :
    Calls Try.prog 10 #[.string (B l)] w fun e w' => e = .returned (.int .i64 (okE l)) ∧ w' = w := by
  obtain ⟨m, hm⟩ : ∃ m, l.length = m := ⟨_, rfl⟩
  have hsz : (B l).size = m := by rw [B_size]; exact hm
  have HM := Lib.hid hm
  rw [hm] at hl
  clear hm
  go_enter Try.func10, Try.ntmps10
  go_wp2
  go_loopg [3] m (fun g s3 wr => ∃ k : Nat, s3 = .int .i64 k ∧ k ≤ m ∧ m - k ≤ g ∧ wr = w ∧ Hid (ok l = ok (l.drop k)))
  case atStart => exact ⟨0, rfl, Nat.zero_le _, by omega, rfl, Lib.hid rfl⟩
  case round =>
    obtain ⟨k, rfl, hk, hg, rfl, HI⟩ := hrel
    by_cases hlt : k < m
    · have hd := drop_one l k (by rw [HM.out]; exact hlt)
      have ix := index_at l k k rfl (by rw [HM.out]; exact hlt)
      generalize l.getD k 0 = a at hd ix
      by_cases ha : a = 92
      · subst ha
        by_cases h2 : k + 1 < m
        · have hd2 := drop_one l (k + 1) (by rw [HM.out]; exact h2)
          have HN : Hid (ok l = ok (l.drop (k + 2))) := Lib.hid (by rw [HI.out, hd, hd2, ok_bs])
          clear hd hd2
          have q1 : ((k : Int) + 1 == (m : Int)) = false := beq_eq_false_iff_ne.2 (by omega)
          have q2 : ¬ (k : Int) + 1 = (m : Int) := by omega
          go_wp2
          go_roundg (m - (k + 2))
          case measure => omega
          case rel => exact ⟨k + 2, by go_num, by omega, by omega, rfl, HN⟩
        · obtain rfl : m = k + 1 := by omega
          have HN : Hid (ok l = false) := Lib.hid (by rw [HI.out, hd, List.drop_eq_nil_of_le (by rw [HM.out]; exact Nat.le_refl _)]; rfl)
          clear hd
          go_wp2
          go_ret
          exact ⟨by unfold okE; rw [HN.out]; rfl, rfl⟩
      · have q0 := byte_no ha
        have HN : Hid (ok l = ok (l.drop (k + 1))) := Lib.hid (by rw [HI.out, hd, ok_pl ha])
        clear hd
        go_wp2
        go_roundg (m - (k + 1))
        case measure => omega
        case rel => exact ⟨k + 1, by go_num, by omega, by omega, rfl, HN⟩
    · obtain rfl : k = m := by omega
      go_wp2
      go_ret
      refine ⟨?_, rfl⟩
      have : ok l = true := by rw [HI.out, List.drop_eq_nil_of_le (by rw [HM.out]; exact Nat.le_refl _)]; rfl
      unfold okE
      rw [this]
      rfl

theorem mo_short : ∀ l : List UInt8, l.length ≤ 1 → mo l = 0
  | [], _ => rfl
  | [_], _ => rfl
  | _ :: _ :: _, h => by simp at h

set_option maxHeartbeats 2000000 in
set_option maxRecDepth 100000 in
theorem refMost_is (l : List UInt8) (w : World) (hl : l.length ≤ 1000000) :
    Calls Try.prog 14 #[.string (B l)] w fun e w' => e = .returned (.int .i64 (mo l : Nat)) ∧ w' = w := by
  obtain ⟨m, hm⟩ : ∃ m, l.length = m := ⟨_, rfl⟩
  have hsz : (B l).size = m := by rw [B_size]; exact hm
  have HM := Lib.hid hm
  rw [hm] at hl
  clear hm
  go_enter Try.func14, Try.ntmps14
  go_wp2
  go_loopg [3, 4] m (fun g s3 s4 wr => ∃ (k : Nat) (r : Int), s4 = .int .i64 k ∧ k ≤ m ∧ m - k ≤ g ∧ wr = w ∧ s3 = .int .i64 r ∧ Hid (∃ r0 : Nat, r = r0 ∧ mo l = max r0 (mo (l.drop k))))
  case atStart => exact ⟨0, 0, rfl, Nat.zero_le _, by omega, rfl, rfl, Lib.hid ⟨0, rfl, by simp⟩⟩
  case round =>
    obtain ⟨k, r, rfl, hk, hg, rfl, rfl, HI⟩ := hrel
    by_cases hlt : k + 1 < m
    · have hd := drop_one l k (by rw [HM.out]; omega)
      have hd2 := drop_one l (k + 1) (by rw [HM.out]; omega)
      have ix := index_at l k k rfl (by rw [HM.out]; omega)
      have ix2 := index_at l (k + 1) ((k : Int) + 1) (by omega) (by rw [HM.out]; omega)
      generalize l.getD k 0 = a at hd ix
      generalize l.getD (k + 1) 0 = b at hd2 ix2
      by_cases ha : a = 92
      · subst ha
        have hmo : mo (l.drop k) = max (dig b) (mo (l.drop (k + 2))) := by rw [hd, hd2, mo_bs]
        clear hd hd2
        by_cases h1 : 49 ≤ b.toNat
        · have q1 : decide ((49 : Int) ≤ (b.toNat : Int)) = true := decide_eq_true (by omega)
          by_cases h2 : b.toNat ≤ 57
          · have q2 : decide ((b.toNat : Int) ≤ 57) = true := decide_eq_true (by omega)
            have HN : Hid (dig b = b.toNat - 48 ∧ mo (l.drop k) = max (dig b) (mo (l.drop (k + 2)))) := Lib.hid ⟨by simp [dig, digB, h1, h2], hmo⟩
            clear hmo
            go_wp2
            go_roundg (m - (k + 2))
            case measure => omega
            case rel =>
              refine ⟨k + 2, _, by go_num, by omega, by omega, rfl, rfl, Lib.hid ?_⟩
              obtain ⟨r0, h0, h3⟩ := HI.out
              obtain ⟨h4, h5⟩ := HN.out
              exact ⟨max r0 (dig b), by rw [h4, h0]; omega, by rw [h3, h5, Nat.max_assoc]⟩
          · have q2 : decide ((b.toNat : Int) ≤ 57) = false := decide_eq_false (by omega)
            have HN : Hid (dig b = 0 ∧ mo (l.drop k) = max (dig b) (mo (l.drop (k + 2)))) := Lib.hid ⟨by simp [dig, digB, h2], hmo⟩
            clear hmo
            go_wp2
            go_roundg (m - (k + 2))
            case measure => omega
            case rel =>
              refine ⟨k + 2, _, by go_num, by omega, by omega, rfl, rfl, Lib.hid ?_⟩
              obtain ⟨r0, h0, h3⟩ := HI.out
              obtain ⟨h4, h5⟩ := HN.out
              exact ⟨r0, h0, by rw [h3, h5, h4, Nat.zero_max]⟩
        · have q1 : decide ((49 : Int) ≤ (b.toNat : Int)) = false := decide_eq_false (by omega)
          have HN : Hid (dig b = 0 ∧ mo (l.drop k) = max (dig b) (mo (l.drop (k + 2)))) := Lib.hid ⟨by simp [dig, digB, h1], hmo⟩
          clear hmo
          go_wp2
          go_roundg (m - (k + 2))
          case measure => omega
          case rel =>
            refine ⟨k + 2, _, by go_num, by omega, by omega, rfl, rfl, Lib.hid ?_⟩
            obtain ⟨r0, h0, h3⟩ := HI.out
            obtain ⟨h4, h5⟩ := HN.out
            exact ⟨r0, h0, by rw [h3, h5, h4, Nat.zero_max]⟩
      · have q0 := byte_no ha
        have HN : Hid (mo (l.drop k) = mo (l.drop (k + 1))) := Lib.hid (by rw [hd, mo_pl ha])
        clear hd hd2
        go_wp2
        go_roundg (m - (k + 1))
        case measure => omega
        case rel =>
          refine ⟨k + 1, _, by go_num, by omega, by omega, rfl, rfl, Lib.hid ?_⟩
          obtain ⟨r0, h0, h3⟩ := HI.out
          exact ⟨r0, h0, by rw [h3, HN.out]⟩
    · have q9 : ¬ ((k : Int) + 1 < (m : Int)) := by omega
      go_wp2
      go_ret
      refine ⟨?_, rfl⟩
      obtain ⟨r0, h0, h3⟩ := HI.out
      rw [h3, mo_short (l.drop k) (by rw [List.length_drop, HM.out]; omega), Nat.max_zero, ← h0]
      rfl

set_option maxHeartbeats 1000000 in
set_option maxRecDepth 100000 in
theorem refStretch_is (s : List UInt8) (f : Nat → Int) (n : Nat) (ni : Int) (hni : ni = n) (hn : n < 10) (w : World) (hl : s.length ≤ 1000000) : Calls Try.prog 23 #[.string (B s), .agg (spA f), .int .i64 ni] w fun e w' => e = .returned (.string (B (stf f s n))) ∧ Below w.heap.size w w' := by
  subst hni
  have hsz : (B s).size = s.length := B_size s
  obtain ⟨m, hm⟩ : ∃ m, s.length = m := ⟨_, rfl⟩
  have HM := Lib.hid hm
  have sm := slice_mid s
  rw [stf_is]
  obtain ⟨R, hR⟩ : ∃ R, st2 (f (2 * n)) (f (2 * n + 1)) s = R := ⟨_, rfl⟩
  rw [hR]
  rw [hm] at hsz hl
  clear hm
  have ad := fun b W => addr23 b n (n : Int) rfl hn W
  go_enter Try.func23, Try.ntmps23
  go_wp2_with (refine wpList_boxSp rfl _ rfl f rfl ?_; intro w1 hs1 hp1 hb1)
  have c1 := hp1.cell (2 * n) (by omega)
  have c2 := hp1.cell (2 * n + 1) (by omega)
  have HB := Lib.hid hb1
  clear hp1 hb1 hs1
  generalize f (2 * n) = x at c1 hR
  generalize f (2 * n + 1) = y at c2 hR
  have HR := Lib.hid hR
  clear hR
  go_quiet (fail)
  by_cases h1 : x < 0
  · have e : R = [] := by rw [← HR.out]; unfold st2; rw [if_pos (.inl h1)]
    subst e
    have q1 : decide (x < 0) = true := decide_eq_true h1
    clear sm HR
    go_wp2
    go_ret
    exact ⟨rfl, below_drewN HB.out _⟩
  · have q1 : decide (x < 0) = false := decide_eq_false h1
    by_cases h2 : y < x
    · have e : R = [] := by rw [← HR.out]; unfold st2; rw [if_pos (.inr (.inl h2))]
      subst e
      have q2 : decide (y < x) = true := decide_eq_true h2
      clear sm HR
      go_wp2
      go_ret
      exact ⟨rfl, below_drewN HB.out _⟩
    · have q2 : decide (y < x) = false := decide_eq_false h2
      by_cases h3 : (m : Int) < y
      · have e : R = [] := by rw [← HR.out]; unfold st2; rw [if_pos (.inr (.inr (by rw [HM.out]; exact h3)))]
        subst e
        have q3 : decide ((m : Int) < y) = true := decide_eq_true h3
        clear sm HR
        go_wp2
        go_ret
        exact ⟨rfl, below_drewN HB.out _⟩
      · have q3 : decide ((m : Int) < y) = false := decide_eq_false h3
        have sl := sm x.toNat y.toNat x y (by omega) (by omega) (by omega) (by rw [HM.out]; omega)
        have e : (s.drop x.toNat).take (y.toNat - x.toNat) = R := by rw [← HR.out]; unfold st2; rw [if_neg (by rw [HM.out]; omega)]
        rw [e] at sl
        clear sm HR e
        go_wp2
        go_ret
        exact ⟨rfl, below_drewN HB.out _⟩
end Go.Proofs.Ytibflbepnlemmaa.tpl
