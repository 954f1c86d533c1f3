/- Grids: what is asked of numbers, of a place, of a byte. -/
import Derived.Test.YteekihhngjbjgaaGrdWords
namespace Go.Proofs.Yteekihhngjbjgaa.grd
open Go.RowKit Go.Lib
set_option linter.unusedVariables false
set_option linter.unusedSimpArgs false
set_option linter.unnecessarySimpa false
set_option linter.unusedSectionVars false

theorem and4 (p1 p2 p3 p4 : Prop) [Decidable p1] [Decidable p2] [Decidable p3] [Decidable p4] (b : Bool) (h : b = (decide p1 && decide p2 && decide p3 && decide p4)) : decide (p1 ∧ p2 ∧ p3 ∧ p4) = b := by
  subst h; rw [Bool.eq_iff_iff]; simp [and_assoc]
set_option maxHeartbeats 1000000 in
theorem mayBe_is (r c : Int) (w : World) : Calls Try.prog 31 #[.int .i64 r, .int .i64 c] w fun e w' => e = .returned (.bool (sized r c)) ∧ w' = w := by
  have H : ∀ b1 b2 b3 b4 : Bool, decide (2 ≤ r) = b1 → decide (r ≤ 60) = b2 → decide (8 ≤ c) = b3 → decide (c ≤ 132) = b4 → Calls Try.prog 31 #[.int .i64 r, .int .i64 c] w fun e w' => e = .returned (.bool (b1 && b2 && b3 && b4)) ∧ w' = w := by
    intro b1 b2 b3 b4 h1 h2 h3 h4
    cases b1 <;> cases b2 <;> cases b3 <;> cases b4
    all_goals
      go_enter Try.func31, Try.ntmps31
      go_wp2
      go_ret
      exact ⟨rfl, rfl⟩
  have := H _ _ _ _ rfl rfl rfl rfl
  unfold sized
  rw [and4 _ _ _ _ _ rfl]
  exact this
set_option maxHeartbeats 1000000 in
theorem refSized_is (r c : Int) (w : World) : Calls Try.prog 40 #[.int .i64 r, .int .i64 c] w fun e w' => e = .returned (.bool (sized r c)) ∧ w' = w := by
  have H : ∀ b1 b2 b3 b4 : Bool, decide (2 ≤ r) = b1 → decide (r ≤ 60) = b2 → decide (8 ≤ c) = b3 → decide (c ≤ 132) = b4 → Calls Try.prog 40 #[.int .i64 r, .int .i64 c] w fun e w' => e = .returned (.bool (b1 && b2 && b3 && b4)) ∧ w' = w := by
    intro b1 b2 b3 b4 h1 h2 h3 h4
    cases b1 <;> cases b2 <;> cases b3 <;> cases b4
    all_goals
      go_enter Try.func40, Try.ntmps40
      go_wp2
      go_ret
      exact ⟨rfl, rfl⟩
  have := H _ _ _ _ rfl rfl rfl rfl
  unfold sized
  rw [and4 _ _ _ _ _ rfl]
  exact this
set_option maxHeartbeats 1000000 in
theorem has_is (R C a b : Int) (v : Value) (r c : Int) (w : World) : Calls Try.prog 32 #[.agg #[.int .i64 R, .int .i64 C, v, .int .i64 a, .int .i64 b], .int .i64 r, .int .i64 c] w fun e w' => e = .returned (.bool (hasB R C r c)) ∧ Below w.heap.size w w' := by
  have H : ∀ b1 b2 b3 b4 : Bool, decide (0 ≤ r) = b1 → decide (r < R) = b2 → decide (0 ≤ c) = b3 → decide (c < C) = b4 → Calls Try.prog 32 #[.agg #[.int .i64 R, .int .i64 C, v, .int .i64 a, .int .i64 b], .int .i64 r, .int .i64 c] w fun e w' => e = .returned (.bool (b1 && b2 && b3 && b4)) ∧ Below w.heap.size w w' := by
    intro b1 b2 b3 b4 h1 h2 h3 h4
    cases b1 <;> cases b2 <;> cases b3 <;> cases b4
    all_goals
      go_enter Try.func32, Try.ntmps32
      go_wp2
      go_ret
      exact ⟨rfl, (Below.refl _ _).alloc (Nat.le_refl _) _⟩
  have := H _ _ _ _ rfl rfl rfl rfl
  unfold hasB
  rw [and4 _ _ _ _ _ rfl]
  exact this
theorem isNoCell_is (c : UInt8) (w : World) : Calls Try.prog 34 #[.int .u8 (c.toNat : Int)] w fun e w' => e = .returned (.bool (!okB c)) ∧ w' = w := by
  have H : ∀ b1 b2 : Bool, decide (c.toNat < 32) = b1 → decide (126 < c.toNat) = b2 → Calls Try.prog 34 #[.int .u8 (c.toNat : Int)] w fun e w' => e = .returned (.bool (b1 || b2)) ∧ w' = w := by
    intro b1 b2 h1 h2
    have h3 : decide ((c.toNat : Int) < 32) = b1 := by rw [← h1]; congr 1; rw [eq_iff_iff]; omega
    have h4 : decide (126 < (c.toNat : Int)) = b2 := by rw [← h2]; congr 1; rw [eq_iff_iff]; omega
    cases b1 <;> cases b2
    all_goals
      go_enter Try.func34, Try.ntmps34
      go_wp2
      go_ret
      exact ⟨rfl, rfl⟩
  have e : (!okB c) = (decide (c.toNat < 32) || decide (126 < c.toNat)) := by
    rw [Bool.eq_iff_iff]; unfold okB; simp
  rw [e]
  exact H _ _ rfl rfl
/-- Where the first byte stands that is no cell. -/
def firstBad : List UInt8 → Nat → Int
  | [], _ => -1
  | c :: l, k => if okB c then firstBad l (k + 1) else k
theorem firstBad_iff (l : List UInt8) (k : Nat) : decide (0 ≤ firstBad l k) = !l.all okB := by
  induction l generalizing k with
  | nil => rfl
  | cons c l ih =>
    unfold firstBad
    cases h : okB c with
    | true => simp only [if_true, List.all_cons, h, Bool.true_and]; exact ih _
    | false => simp [h]
theorem firstBad_drop (l : List UInt8) (k : Nat) (c : UInt8) (h : l[k]? = some c) : firstBad (l.drop k) k = if okB c then firstBad (l.drop (k + 1)) (k + 1) else k := by
  obtain ⟨hk, rfl⟩ := List.getElem?_eq_some_iff.1 h
  rw [List.drop_eq_getElem_cons hk]; rfl
set_option maxHeartbeats 1000000 in
set_option maxRecDepth 100000 in
theorem index_is (lo hi : Nat) (B : Option Addr) (d : Nat) (l : List UInt8) (n : Nat) (hn : n = l.length) (hm : n ≤ 100000) (w : World) (h : VRd w lo hi B (l.map u8)) :
    Calls Try.prog 44 #[.slice B n d, .func (.func 34) #[] #[]] w fun e w' => e = .returned (.int .i64 (firstBad l 0)) ∧ w' = w := by
  have HN := Lib.hid hn
  clear hn
  go_enter Try.func44, Try.ntmps44
  go_wp2
  go_loopg [8] n (fun g s8 wr => ∃ k : Nat, k ≤ n ∧ n - k ≤ g ∧ s8 = .int .i64 k ∧ wr = w ∧ Hid (firstBad l 0 = firstBad (l.drop k) k))
  case atStart => exact ⟨0, Nat.zero_le _, by omega, rfl, rfl, Lib.hid (by simp)⟩
  case round =>
    obtain ⟨k, hk, hg, rfl, hw, HF⟩ := hrel
    have hw := hw.symm
    subst hw
    by_cases hlt : k < n
    · obtain ⟨x, hx⟩ : ∃ x, l[k]? = some x := ⟨_, List.getElem?_eq_getElem (by rw [← HN.out]; exact hlt)⟩
      obtain ⟨b, off, rfl, _, _, hc⟩ := VRd.at h k x hx
      have D := Lib.hid (firstBad_drop l k x hx)
      have hp := isNoCell_is x w
      clear h hx
      obtain ⟨o, ho⟩ : ∃ o, okB x = o := ⟨_, rfl⟩
      rw [ho] at hp
      have HO := Lib.hid ho
      clear ho
      cases o with
      | true =>
        go_wp2_with (go_at_call 34; refine hp.mono ?_; rintro e w' ⟨rfl, rfl⟩)
        go_roundg (n - (k + 1))
        case measure => omega
        case rel => exact ⟨k + 1, by omega, by omega, by go_num, rfl, Lib.hid (by rw [HF.out, D.out, HO.out, if_pos rfl])⟩
      | false =>
        go_wp2_with (go_at_call 34; refine hp.mono ?_; rintro e w' ⟨rfl, rfl⟩)
        go_ret
        exact ⟨by rw [HF.out, D.out, HO.out]; rfl, rfl⟩
    · have hkn : k = n := by omega
      subst hkn
      clear h
      go_wp2
      go_ret
      exact ⟨by rw [HF.out, HN.out, List.drop_length]; rfl, rfl⟩
theorem contains_is (lo hi : Nat) (B : Option Addr) (d : Nat) (l : List UInt8) (n : Nat) (hn : n = l.length) (hm : n ≤ 100000) (w : World) (h : VRd w lo hi B (l.map u8)) :
    Calls Try.prog 33 #[.slice B n d, .func (.func 34) #[] #[]] w fun e w' => e = .returned (.bool (!l.all okB)) ∧ w' = w := by
  have C := index_is lo hi B d l n hn hm w h
  rw [← firstBad_iff l 0]
  generalize firstBad l 0 = z at C ⊢
  clear h hn
  go_enter Try.func33, Try.ntmps33
  go_wp2_with fail
  go_at_call 44
  refine C.mono ?_
  rintro e w' ⟨rfl, rfl⟩
  go_wp2
  go_ret
  exact ⟨rfl, rfl⟩
end Go.Proofs.Yteekihhngjbjgaa.grd
