/- slices.Grow of the nil slice, and slices.Concat, of texts and of slices: what it makes is a row of one's own. -/
import Derived.Test.YtojcbjificodaaaPceRef
import Derived.Test.YtojcbjificodaaaPceLists
import Derived.Test.YtojcbjificodaaaPceMuch
import Derived.Lib.AppendZeros
namespace Go.Proofs.Ytojcbjificodaaa.pce
open Go.RowKit Go.Lib
set_option linter.unusedVariables false
set_option linter.unusedSimpArgs false
set_option linter.unnecessarySimpa false
set_option linter.unusedSectionVars false

/-- One of the slices that are put together: where it stands, its room, its values. -/
structure Sg where
  A : Option Addr
  c : Nat
  vs : List Value
def sgv (s : Sg) : Value := .slice s.A s.vs.length s.c
def sum (ss : List Sg) : List Value := ss.flatMap (·.vs)
structure SgAt (w : World) (F : Nat → Prop) (s : Sg) : Prop where
  nil : s.A = none → s.c = 0
  row : VRd w F s.A s.vs
  one : ∀ u ∈ s.vs, u.oneCell' = true
theorem SgAt.keep {w w' : World} {F : Nat → Prop} {s : Sg} (h : SgAt w F s) (hk : ∀ b, F b → b < w.heap.size → w'.heap[b]? = w.heap[b]?) (hs : w.heap.size ≤ w'.heap.size) : SgAt w' F s := ⟨h.nil, h.row.keep hk hs, h.one⟩
theorem SgAt.below {w w' : World} {F : Nat → Prop} {s : Sg} (h : SgAt w F s) (hB : Below w.heap.size w w') : SgAt w' F s := ⟨h.nil, h.row.below hB, h.one⟩
theorem sum_take (ss : List Sg) (k : Nat) {s : Sg} (h : ss[k]? = some s) : sum (ss.take (k + 1)) = sum (ss.take k) ++ s.vs := by
  obtain ⟨hk, rfl⟩ := List.getElem?_eq_some_iff.1 h
  unfold sum
  rw [List.take_succ_eq_append_getElem hk, List.flatMap_append]; simp
theorem sum_take_len (ss : List Sg) (k : Nat) : (sum (ss.take k)).length ≤ (sum ss).length := by
  conv => rhs; rw [← List.take_append_drop k ss]
  unfold sum
  rw [List.flatMap_append, List.length_append]; omega

set_option maxHeartbeats 1000000 in
set_option maxRecDepth 100000 in
theorem growT (w : World) (n : Nat) (hn : n ≤ 100000) :
    Calls Try.prog 25 #[.slice none 0 0, .int .i64 n] w fun e w' => ∃ B c, e = .returned (.slice B 0 c) ∧ w'.ownsRow w.heap.size 9 1 (.slice B 0 c) 0 [] ∧ Below w.heap.size w w' := by
  obtain ⟨i0, hi, hz0, hz1, hz2⟩ := info_parts info9
  rcases Nat.eq_zero_or_pos n with h0 | h0
  · subst h0
    go_enter Try.func25, Try.ntmps25
    go_wp2
    go_ret
    exact ⟨none, 0, rfl, World.ownsRow_nil _ _ _ _, Below.refl _ _⟩
  · have hrz : ∀ ty, (Builtin.append_ #[25, 3] ty #[.slice none 0 0, .int .i64 (n : Int)]).run Try.prog w = _ := fun ty =>
      Lib.run_append_nil_zeros w 25 3 ty 9 i0 _ .i64 .i64 Try.underlying25 Try.underlying3 hi hz0 n h0 (by omega) (by omega) (by rw [hz2]; omega)
    obtain ⟨G, hG⟩ : ∃ G, G = grownCap w n 0 9 := ⟨_, rfl⟩
    have hGn : n ≤ G := by rw [hG]; exact grownCap_ge w _ _ _
    have hG2 : G ≤ maxLen := by rw [hG]; exact grownCap_le_maxLen w n 0 9 (by unfold maxLen; omega)
    rw [← hG] at hrz
    have HO := Lib.hid (World.ownsRow_made (base := w.heap.size) (e := 9) (size := 1) w.drew (Builtin.zeroCells (.string ⟨#[]⟩ : Value).cells n ++ Builtin.zeroCells (.string ⟨#[]⟩ : Value).cells (G - n)) G (Nat.le_refl _) hG2 (by rw [Array.size_append, size_zeroCells, size_zeroCells]; show n * 1 + (G - n) * 1 = G * 1; omega))
    have h63 : G ≤ 9223372036854775807 := by unfold maxLen at hG2; omega
    have hpos : (n : Int) > 0 := by omega
    clear hG hG2
    go_enter Try.func25, Try.ntmps25
    go_wp2_with (at_builtin; refine Lib.wpList_append_run _ rfl _ _ _ _ rfl _ _ rfl rfl _ _ (hrz _) ?_)
    go_ret
    exact ⟨_, _, rfl, HO.out, ((Below.refl _ w).drew).alloc (Nat.le_refl _) _⟩

set_option maxHeartbeats 4000000 in
set_option maxRecDepth 100000 in
theorem concatT (w : World) (F : Nat → Prop) (A : Option Addr) (n c : Nat) (ss : List Sg) (hn : n = ss.length) (hb : n ≤ 100000) (ht : (sum ss).length ≤ 100000) (h : VRd w F A (ss.map sgv)) (hs : ∀ s ∈ ss, SgAt w F s) :
    Calls Try.prog 21 #[.slice A n c] w fun e w' => ∃ B k c', e = .returned (.slice B k c') ∧ k = (sum ss).length ∧ w'.ownsRow w.heap.size 9 1 (.slice B k c') k (sum ss) ∧ Below w.heap.size w w' := by
  obtain ⟨i0, hi, hz0, hz1, hz2⟩ := info_parts info9
  have hml : (1000000 : Nat) ≤ maxLen := by unfold maxLen; omega
  have HN := Lib.hid hn
  have HT := Lib.hid ht
  have HS := Lib.hid hs
  clear hn hs ht
  go_enter Try.func21, Try.ntmps21
  go_wp2
  go_loopg [3, 11] n (fun g s3 s11 wr => ∃ (k r : Nat), k ≤ n ∧ n - k ≤ g ∧ s11 = .int .i64 k ∧ wr = w ∧ s3 = .int .i64 r ∧ r ≤ 100000 ∧ r = (sum (ss.take k)).length)
  case atStart => exact ⟨0, 0, Nat.zero_le _, by omega, rfl, rfl, rfl, by omega, by simp [sum]⟩
  case round =>
    obtain ⟨k, r, hk, hg, rfl, hwr, rfl, hr, heq⟩ := hrel
    have hwr := hwr.symm
    subst hwr
    have HE := Lib.hid heq
    clear heq
    by_cases hlt : k < n
    · obtain ⟨s, hs⟩ : ∃ s, ss[k]? = some s := ⟨_, List.getElem?_eq_getElem (by rw [← HN.out]; exact hlt)⟩
      have hs2 : (ss.map sgv)[k]? = some (sgv s) := by rw [List.getElem?_map, hs]; rfl
      obtain ⟨b1, o1, rfl, _, _, hc1⟩ := h (by rw [List.length_map, ← HN.out]; omega)
      have g1 : w.cell? ⟨b1, o1 + k, none⟩ = some (.slice s.A s.vs.length s.c) := hc1 k _ hs2
      have T := Lib.hid (sum_take ss k hs)
      have hl : r + s.vs.length ≤ 100000 := by
        have h1 := sum_take_len ss (k + 1)
        rw [T.out, List.length_append, ← HE.out] at h1
        exact Nat.le_trans h1 HT.out
      clear hc1 hs2 hs
      generalize hm : s.vs.length = m at g1 hl
      have HM := Lib.hid hm
      clear hm
      go_wp2
      go_roundg (n - (k + 1))
      case measure => omega
      case rel =>
        refine ⟨k + 1, r + m, by omega, by omega, by go_num, rfl, by go_num, hl, ?_⟩
        rw [T.out, List.length_append, HE.out, HM.out]
    · have hkn : k = n := by omega
      subst hkn
      go_wp2_with fail
      go_at_call 25
      refine (growT _ r hr).mono ?_
      rintro e w1 ⟨B, c1, rfl, hown0, hB0⟩
      clear hk hg hlt
      go_wp2
      go_loopg [6, 27] k (fun g s6 s27 wr => ∃ (j m : Nat), j ≤ k ∧ k - j ≤ g ∧ s27 = .int .i64 j ∧ m ≤ 100000 ∧ m = (sum (ss.take j)).length ∧ wr.ownsRow w.heap.size 9 1 s6 m (sum (ss.take j)) ∧ Below w.heap.size w wr)
      case atStart => exact ⟨0, 0, Nat.zero_le _, by omega, rfl, by omega, by simp [sum], by simpa [sum] using hown0, hB0⟩
      case round =>
        obtain ⟨j, m, hj, hg, rfl, hm, hme, hown, hB⟩ := hrel
        have hz := hB.size
        have ME := Lib.hid hme
        clear hme hown0 hB0
        by_cases hlt : j < k
        · obtain ⟨s, hs⟩ : ∃ s, ss[j]? = some s := ⟨_, List.getElem?_eq_getElem (by rw [← HN.out]; exact hlt)⟩
          have hs2 : (ss.map sgv)[j]? = some (sgv s) := by rw [List.getElem?_map, hs]; rfl
          obtain ⟨b1, o1, rfl, _, _, hc1⟩ := (h.below hB) (by rw [List.length_map, ← HN.out]; omega)
          have g1 : wr.cell? ⟨b1, o1 + j, none⟩ = some (.slice s.A s.vs.length s.c) := hc1 j _ hs2
          have T := Lib.hid (sum_take ss j hs)
          have hl : m + s.vs.length ≤ 100000 := by
            have h1 := sum_take_len ss (j + 1)
            rw [T.out, List.length_append, ← ME.out] at h1
            exact Nat.le_trans h1 HT.out
          have HSG := Lib.hid ((HS.out s (List.mem_of_getElem? hs)).below hB)
          clear hc1 hs2 hs
          rcases hA : s.A with _ | ad
          · have hc0 : s.c = 0 := HSG.out.nil hA
            have hv0 : s.vs = [] := by
              rcases Nat.eq_zero_or_pos s.vs.length with h0 | h0
              · exact List.eq_nil_of_length_eq_zero h0
              · obtain ⟨_, _, e, _⟩ := HSG.out.row h0
                rw [hA] at e; cases e
            rw [hA, hc0, hv0] at g1
            have T2 : Hid (sum (ss.take (j + 1)) = sum (ss.take j)) := Lib.hid (by rw [T.out, hv0, List.append_nil])
            clear hA hc0 hv0 hl
            go_wp2_with (at_builtin; refine wpList_append_own_none rfl (.tmp 31) (.tmp 32) 25 rfl w.heap.size 9 i0 1 Try.underlying25 hi _ _ _ rfl hown rfl ?_)
            go_roundg (k - (j + 1))
            case measure => omega
            case rel => exact ⟨j + 1, m, by omega, by omega, by go_num, hm, by rw [T2.out]; exact ME.out, by rw [T2.out]; exact hown, hB⟩
          · have HC := Lib.hid (HSG.out.row.cells hA)
            have HO := Lib.hid HSG.out.one
            rw [hA] at g1
            clear hA
            obtain ⟨x, hx⟩ : ∃ x, s.vs.length = x := ⟨_, rfl⟩
            have HX := Lib.hid hx
            rw [hx] at g1 hl
            clear hx
            go_wp2_with (at_builtin; refine wpList_append_own _ rfl (.tmp 31) (.tmp 32) 25 rfl w.heap.size 9 i0 (.string ⟨#[]⟩) 1 16 Try.underlying25 hi hz0 hz1 hz2 rfl (by decide) _ _ _ rfl hown ad x s.c s.vs rfl (by rw [HX.out]; omega) HC.out HO.out (by omega) (by omega) hz ?_; intro v1 w1 hown1 hgrow1 _; have hB1 := hB.grown hgrow1 hz (fun j hj => (hown.lt j hj).1))
            have HOWN := Lib.hid hown1
            have HB1 := Lib.hid hB1
            clear hown1 hB1 hgrow1 hown hB
            go_roundg (k - (j + 1))
            case measure => omega
            case rel => exact ⟨j + 1, m + x, by omega, by omega, by go_num, hl, by rw [T.out, List.length_append, ← ME.out, HX.out], by rw [T.out]; exact HOWN.out, HB1.out⟩
        · have hjk : j = k := by omega
          subst hjk
          have E : Hid (ss.take j = ss) := Lib.hid (by rw [HN.out, List.take_length])
          obtain ⟨B', c', rfl, _, _⟩ := own_form' hown
          go_wp2
          go_ret
          rw [E.out] at hown ME
          exact ⟨B', m, c', rfl, ME.out, hown, hB⟩

end Go.Proofs.Ytojcbjificodaaa.pce
