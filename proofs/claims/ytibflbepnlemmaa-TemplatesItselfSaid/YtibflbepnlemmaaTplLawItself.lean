/- TemplatesItself, walked. -/
import Derived.Test.YtibflbepnlemmaaTplDoes
namespace Go.Proofs.Ytibflbepnlemmaa.tpl
open Go.RowKit Go.Lib
set_option linter.unusedVariables false
set_option linter.unusedSimpArgs false
set_option linter.unnecessarySimpa false
set_option linter.unusedSectionVars false

theorem quo_take (l : List UInt8) (k : Nat) (h : k < l.length) : quo (l.take (k + 1)) = quo (l.take k) ++ (if spec (l.getD k 0) then [92, l.getD k 0] else [l.getD k 0]) := by
  have e : l.getD k 0 = l[k] := by simp [List.getD, List.getElem?_eq_getElem h]
  rw [take_snoc l k h, quo_snoc, e]

set_option maxHeartbeats 4000000 in
set_option maxRecDepth 100000 in
theorem law6 (l s : List UInt8) (f : Nat → Int) (w : World) (hl : l.length ≤ maxLen) (hs : s.length ≤ maxLen) :
    Calls Try.prog 6 #[.string (B l), .string (B s), .agg (spA f)] w fun e w' => e = .returned (.bool true) ∧ Below w.heap.size w w' := by
  unfold maxLen at hl hs
  obtain ⟨m, hm⟩ : ∃ m, l.length = m := ⟨_, rfl⟩
  obtain ⟨n, hn⟩ : ∃ n, s.length = n := ⟨_, rfl⟩
  have hsz : (B l).size = m := by rw [B_size]; exact hm
  have hsy : (B s).size = n := by rw [B_size]; exact hn
  have HM := Lib.hid hm
  have HN := Lib.hid hn
  rw [hm] at hl
  rw [hn] at hs
  clear hm hn
  by_cases hbig : 1000 < m
  · go_enter Try.func6, Try.ntmps6
    go_wp2_with (refine wpList_boxSp rfl _ rfl f rfl ?_; intro w1 hs1 hp1 hb1)
    go_ret
    exact ⟨rfl, hb1⟩
  · by_cases hbig2 : 1000 < n
    · go_enter Try.func6, Try.ntmps6
      go_wp2_with (refine wpList_boxSp rfl _ rfl f rfl ?_; intro w1 hs1 hp1 hb1)
      go_ret
      exact ⟨rfl, hb1⟩
    · obtain ⟨k1, k2, k3, k4⟩ := quo_is l
      have hql : (quo l).length ≤ 2000 := by have := HM.out; omega
      have C1 := Lib.hid (fun W => parse_is (quo l) W (by omega))
      have KQ := Lib.hid (And.intro k1 (And.intro k2 (And.intro (k4 (stf f s)) hql)))
      have CD := Lib.hid (fun W => does_is W)
      clear k1 k2 k3 k4 hql
      go_enter Try.func6, Try.ntmps6
      go_wp2_with (refine wpList_boxSp rfl _ rfl f rfl ?_; intro w1 hs1 hp1 hb1)
      have H1 := Lib.hid (And.intro hb1 (And.intro hp1 hs1))
      clear hb1 hp1 hs1
      go_loopg [7, 8] m (fun g s7 s8 wr => ∃ (k : Nat) (o : List UInt8), s8 = .int .i64 k ∧ s7 = .string (B o) ∧ k ≤ m ∧ m - k ≤ g ∧ o.length ≤ 2 * k ∧ wr = w1 ∧ Hid (o = quo (l.take k)))
      case atStart => exact ⟨0, [], rfl, rfl, Nat.zero_le _, by omega, by simp, rfl, Lib.hid rfl⟩
      case round =>
        obtain ⟨k, o, rfl, rfl, hk, hg, hol, rfl, HI⟩ := hrel
        by_cases hlt : k < m
        · have hkl : k < l.length := by rw [HM.out]; exact hlt
          have ix := index_at l k k rfl hkl
          obtain ⟨a, hga⟩ : ∃ a, l.getD k 0 = a := ⟨_, rfl⟩
          have o1 := fun W => one_at l k a hkl hga ((k : Int) + 1) rfl W
          have HQ := Lib.hid (quo_take l k hkl)
          rw [hga] at ix HQ
          clear hga hkl
          cases hsp : spec a with
          | true =>
            have HQ2 : Hid (quo (l.take (k + 1)) = (o ++ [92]) ++ [a]) := Lib.hid (by rw [HQ.out, HI.out, hsp]; simp)
            have ad1 := fun W => add_B o [92] (by simp; omega) W
            have ad2 := fun W => add_B (o ++ [92]) [a] (by simp; omega) W
            have hcase : a = 38 ∨ a = 92 := by simpa [spec] using hsp
            clear hsp HQ
            rcases hcase with rfl | rfl
            · go_wp2
              go_roundg (m - (k + 1))
              case measure => omega
              case rel => exact ⟨k + 1, (o ++ [92]) ++ [38], by go_num, rfl, by omega, by omega, by simp; omega, rfl, Lib.hid HQ2.out.symm⟩
            · go_wp2
              go_roundg (m - (k + 1))
              case measure => omega
              case rel => exact ⟨k + 1, (o ++ [92]) ++ [92], by go_num, rfl, by omega, by omega, by simp; omega, rfl, Lib.hid HQ2.out.symm⟩
          | false =>
            have HQ2 : Hid (quo (l.take (k + 1)) = o ++ [a]) := Lib.hid (by rw [HQ.out, HI.out, hsp]; simp)
            obtain ⟨h1, h2⟩ := spec_no hsp
            have q1 := byte_no38 h1
            have q2 := byte_no h2
            have ad2 := fun W => add_B o [a] (by simp; omega) W
            clear hsp HQ h1 h2
            go_wp2
            go_roundg (m - (k + 1))
            case measure => omega
            case rel => exact ⟨k + 1, o ++ [a], by go_num, rfl, by omega, by omega, by simp; omega, rfl, Lib.hid HQ2.out.symm⟩
        · obtain rfl : k = m := by omega
          have ho : o = quo l := by rw [HI.out, ← HM.out, List.take_length]
          subst ho
          clear HI hol
          go_wp2_with fail
          go_at_call 9
          refine (C1.out _).mono ?_
          rintro e w2 ⟨hs2, hb2⟩
          obtain ⟨v, ps, rfl, hT, hX, hM, hL⟩ := hs2.1 KQ.out.1
          have hp2 : Sp w2 w.heap.size f := At.keep H1.out.2.1 hb2 (At.lt H1.out.2.1)
          have H2 := Lib.hid (And.intro (H1.out.1.trans (hb2.mono H1.out.1.size)) (And.intro hT (And.intro hX (And.intro hM hL))))
          have hle : ps.length ≤ 1000000 := by have := KQ.out.2.2.2; omega
          have CM := Lib.hid (most_is v ps w2 hle hT)
          rw [hM, KQ.out.2.1] at CM
          have CE := Lib.hid (expand_is v ps s f w2 hle (by rw [HN.out]; omega) (by rw [hX, KQ.out.2.2.1, HM.out]; omega) hT)
          rw [hX, KQ.out.2.2.1] at CE
          clear hs2 hb2 hT hX hM hL hle C1
          go_wp2_with fail
          go_at_call 11
          refine CM.out.mono ?_
          rintro e w4 ⟨rfl, hw4⟩
          rw [hw4]
          clear hw4
          go_wp2_with (refine wpList_loadSpM rfl _ rfl _ rfl f hp2 ?_)
          go_at_call 12
          refine CE.out.mono ?_
          rintro e w3 ⟨rfl, hb3⟩
          have H3 := Lib.hid (H2.out.1.trans (hb3.mono H2.out.1.size))
          clear hb3 hp2 CE CM
          go_wp2_with fail
          go_at_call 13
          refine (CD.out _).mono ?_
          rintro e w5 ⟨rfl, hb5⟩
          go_wp2
          go_ret
          exact ⟨rfl, H3.out.trans (hb5.mono H3.out.size)⟩
theorem law6L (t s : ByteArray) (f : Nat → Int) (w : World) (ht : t.size ≤ maxLen) (hl : s.size ≤ maxLen) :
    Calls Try.prog 6 #[.string t, .string s, .agg (spA f)] w fun e w' => e = .returned (.bool true) ∧ Below w.heap.size w w' := by
  have := law6 t.data.toList s.data.toList f w (by rw [Array.length_toList]; exact ht) (by rw [Array.length_toList]; exact hl)
  rwa [B_list, B_list] at this
end Go.Proofs.Ytibflbepnlemmaa.tpl
