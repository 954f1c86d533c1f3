/- The law LinesMay, walked: for every text it is true, and nothing that was there has turned. -/
import Derived.Test.YtgiffkpneloghaaDoes
import Derived.Test.YtgiffkpneloghaaCheck
namespace Go.Proofs.Ytgiffkpneloghaa
open Go.RowKit Go.Shelf Go.Lib

/-- What Split tells of a text. -/
def SplitSays (s : ByteArray) (n : Nat) (zs : List ByteArray) (b : Bool) : Prop :=
  n = zs.length ∧ zs = texts (lns s.data.toList) ∧ b = last (lns s.data.toList) ∧ n ≤ s.size

theorem size_list (s : ByteArray) : s.data.toList.length = s.size := by rw [Array.length_toList]; rfl

theorem split_s (s : ByteArray) (hs : s.size ≤ 100000) (w : World) :
    Calls Try.prog 10 #[.string s] w fun e W' => ∃ A c n zs b, e = .returned (.tuple #[.slice A n c, .bool b]) ∧ SplitSays s n zs b ∧ W'.ownsRow w.heap.size 9 1 (.slice A n c) n (zs.map Value.string) ∧ SRd W' W'.heap.size A zs ∧ Below w.heap.size w W' := by
  have h := split_reads s.data.toList (by rw [size_list]; exact hs) w
  rw [B_list] at h
  refine h.mono fun e W' ⟨A, c, he, hr, hs', hB⟩ => ⟨A, c, _, _, _, he, ⟨rfl, rfl, rfl, ?_⟩, hr, hs', hB⟩
  have := lns_len s.data.toList
  rw [size_list] at this
  simpa [texts] using this

theorem lns_nil {t : List UInt8} (h : lns t = []) : t = [] := by
  have := lns_text t
  rw [h] at this
  simpa using this.symm

theorem last_cons (x : List UInt8 × Bool) (t : List (List UInt8 × Bool)) : last (x :: t) = if t = [] then x.2 else last t := by
  cases t with
  | nil => simp [last]
  | cons y t => simp [last, List.getLast?_cons]

/-- As many lines as bytes 10, or one more. -/
theorem lns_count (t : List UInt8) : (lns t).length = t.count 10 + if last (lns t) then 0 else 1 := by
  induction t with
  | nil => simp [lns, last]
  | cons c r ih =>
    by_cases hc : c = 10
    · subst hc
      simp only [lns, if_true, List.length_cons, List.count_cons_self, last_cons]
      by_cases hr : lns r = []
      · have := lns_nil hr
        subst this
        simp [lns]
      · rw [if_neg hr, ih]; omega
    · simp only [lns, if_neg hc]
      have hcc : (c :: r).count 10 = r.count 10 := by rw [List.count_cons, if_neg (by simpa using hc)]; simp
      rw [hcc]
      cases hr : lns r with
      | nil =>
        have := lns_nil hr
        subst this
        simp [last]
      | cons y t =>
        rw [hr] at ih
        simp only [List.length_cons, last_cons] at ih ⊢
        exact ih

/-- The last line of a text that lacks an end is not empty. -/
theorem last_text {s : ByteArray} {n : Nat} {zs : List ByteArray} {m : Nat} (h : SplitSays s n zs false) (hm : n = m + 1) : (zs.getD m ByteArray.empty).toList ≠ [] := by
  obtain ⟨h1, h2, h3, _⟩ := h
  have hne : lns s.data.toList ≠ [] := fun e => by rw [h2, e] at h1; simp [texts] at h1; omega
  have hl : (lns s.data.toList).length = m + 1 := by rw [← hm, h1, h2]; simp [texts]
  obtain ⟨x, hx⟩ : ∃ x, (lns s.data.toList)[m]? = some x := ⟨_, List.getElem?_eq_getElem (by omega)⟩
  have hlast : (lns s.data.toList).getLast? = some x := by rw [List.getLast?_eq_getElem?, hl]; simpa using hx
  have hx2 : x.2 = false := by rw [last, hlast] at h3; simpa using h3.symm
  have := lns_lacks (List.mem_of_getElem? hx) hx2
  rw [h2]
  simp only [texts, List.getD, List.getElem?_map, hx, Option.map_some, Option.getD_some]
  rw [toList_B]; exact this

/-- Lines have no byte 10. -/
theorem chk_texts {s : ByteArray} {n : Nat} {zs : List ByteArray} {b : Bool} (h : SplitSays s n zs b) : chk zs ≠ 2 := by
  have : zs.any nl = false := by
    rw [List.any_eq_false]
    intro z hz hn
    rw [h.2.1] at hz
    obtain ⟨x, hx, rfl⟩ := List.mem_map.1 hz
    rw [nl_iff, list_B] at hn
    exact lns_clean hx hn
  unfold chk
  rw [this, if_neg (by simp)]
  split <;> decide

theorem count_take (s : ByteArray) (k : Nat) (h : k < s.size) : (s.data.toList.take (k + 1)).count 10 = (s.data.toList.take k).count 10 + if s[k] = 10 then 1 else 0 := by
  have hk : k < s.data.toList.length := by rw [size_list]; exact h
  rw [List.take_succ_eq_append_getElem hk, List.count_append]
  have : s.data.toList[k] = s[k] := rfl
  rw [this, List.count_singleton]
  by_cases h10 : s[k] = 10 <;> simp [h10]

set_option maxHeartbeats 2000000 in
set_option maxRecDepth 100000 in
theorem law7 (s : ByteArray) (w : World) (hs : s.size ≤ maxLen) :
    Calls Try.prog 7 #[.string s] w fun e w' => e = .returned (.bool true) ∧ Below w.heap.size w w' := by
  have h63 : s.size ≤ 9223372036854775807 := by unfold maxLen at hs; omega
  clear hs
  by_cases hbig : 20000 < s.size
  · go_enter Try.func7, Try.ntmps7
    go_wp2
    go_ret
    exact ⟨rfl, Below.refl _ _⟩
  · go_enter Try.func7, Try.ntmps7
    go_wp2_with fail
    go_at_call 10
    refine (split_s s (by omega) _).mono ?_
    rintro e w1 ⟨A, c, n, zs, b, rfl, hS, _, hR, hB⟩
    have hn : n ≤ 20000 := by have := hS.2.2.2; omega
    have hz := hB.size
    have HC := Lib.hid (lns_count s.data.toList)
    have HS := Lib.hid hS
    clear hS
    go_wp2_with fail
    go_loopg [5, 6] s.size (fun g s5 s6 wr => ∃ k q : Nat, k ≤ s.size ∧ s.size - k ≤ g ∧ s6 = .int .i64 k ∧ wr = w1 ∧ s5 = .int .i64 q ∧ q ≤ 20000 ∧ q ≤ k ∧ q = (s.data.toList.take k).count 10)
    case atStart => exact ⟨0, 0, Nat.zero_le _, by omega, rfl, rfl, rfl, by omega, by omega, by simp⟩
    case round =>
      obtain ⟨k, q, hk, hg, rfl, rfl, rfl, hq, hqk, heq⟩ := hrel
      have HE := Lib.hid heq
      clear heq
      by_cases hlt : k < s.size
      · have T := Lib.hid (count_take s k hlt)
        go_wp2
        · have h10 : s[k] = 10 := by
            have h : ((s[k].toNat : Int) == 10) = true := by assumption
            have h' : s[k].toNat = 10 := by
              have h2 : (s[k].toNat : Int) = 10 := eq_of_beq h
              omega
            exact UInt8.toNat_inj.1 h'
          go_roundg (s.size - (k + 1))
          case measure => omega
          case rel =>
            refine ⟨k + 1, q + 1, by omega, by omega, by go_num, rfl, by go_num, by omega, by omega, ?_⟩
            rw [T.out, if_pos h10, HE.out]
        · have h10 : ¬ s[k] = 10 := fun e => by
            first
              | (have h : ((s[k].toNat : Int) == 10) = false := by assumption
                 rw [e] at h; exact absurd h (by decide))
              | (have h : ¬ (s[k].toNat : Int) = 10 := by assumption
                 rw [e] at h; exact h rfl)
          go_roundg (s.size - (k + 1))
          case measure => omega
          case rel =>
            refine ⟨k + 1, q, by omega, by omega, by go_num, rfl, rfl, by omega, by omega, ?_⟩
            rw [T.out, if_neg h10, HE.out]; rfl
      · have hks : k = s.size := by omega
        subst hks
        have HQ : Hid (n = q + if b then 0 else 1) := Lib.hid (by
          have h1 := HE.out; have h2 := HC.out
          rw [List.take_of_length_le (by rw [size_list]; exact Nat.le_refl _)] at h1
          rw [HS.out.1, HS.out.2.1, HS.out.2.2.1]
          have h3 : (texts (lns s.data.toList)).length = (lns s.data.toList).length := by simp [texts]
          rw [h3, h2, h1])
        have hchk : chk zs = 0 ∨ chk zs = 3 := by
          have h2 := chk_texts HS.out
          unfold chk at h2 ⊢
          split at h2
          · exact absurd rfl h2
          · rename_i h3
            rw [if_neg h3]
            split
            · exact .inr rfl
            · exact .inl rfl
        have HN : Hid (n = zs.length) := Lib.hid HS.out.1
        cases b
        · obtain rfl : n = q + 1 := HQ.out
          obtain ⟨p, off, rfl, _, hc⟩ := hR (by rw [← HN.out]; omega)
          have hcell := hc q (by rw [← HN.out]; omega)
          have hlast := last_text HS.out (m := q) rfl
          generalize hx : zs.getD q ByteArray.empty = x at hcell hlast
          have HX := Lib.hid hx
          clear hx hc
          have e1 : x.toList.isEmpty = false := by simpa using hlast
          have HL := Lib.hid hlast
          clear hlast
          rcases hchk with hk | hk
          all_goals
            have HK := Lib.hid hk
            clear hk
            go_wp2_with fail
            go_at_call 18
            refine (check18_b _ c (q + 1) zs wr _ HN.out (by omega) HK.out hR).mono ?_
            rintro e w2 ⟨rfl, hB2⟩
            have hz2 := hB2.size
            have HB2 := hB.trans (hB2.mono hz)
            clear hB hB2
            go_wp2_with fail
            go_at_call 13
            refine (does13 w2).mono ?_
            rintro e w3 ⟨rfl, hB3⟩
            have HB3 := HB2.trans (hB3.mono (by omega))
            clear HB2 hB3
            go_wp2
            go_ret
            exact ⟨rfl, HB3⟩
        · obtain rfl : n = q := by have := HQ.out; simpa using this
          rcases hchk with hk | hk
          all_goals
            have HK := Lib.hid hk
            clear hk
            go_wp2_with fail
            go_at_call 18
            refine (check18_b _ c _ zs wr _ HN.out (by omega) HK.out hR).mono ?_
            rintro e w2 ⟨rfl, hB2⟩
            have hz2 := hB2.size
            have HB2 := hB.trans (hB2.mono hz)
            clear hB hB2
            go_wp2_with fail
            go_at_call 13
            refine (does13 w2).mono ?_
            rintro e w3 ⟨rfl, hB3⟩
            have HB3 := HB2.trans (hB3.mono (by omega))
            clear HB2 hB3
            go_wp2
            go_ret
            exact ⟨rfl, HB3⟩
end Go.Proofs.Ytgiffkpneloghaa
