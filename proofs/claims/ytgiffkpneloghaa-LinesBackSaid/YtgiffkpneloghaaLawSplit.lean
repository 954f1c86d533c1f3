/- The law LinesSplit, walked: for every text it is true, and nothing that was there has turned. -/
import Derived.Test.YtgiffkpneloghaaRefs
namespace Go.Proofs.Ytgiffkpneloghaa
open Go.RowKit Go.Shelf Go.Lib

theorem own_below {w w' : World} {base n : Nat} {v : Value} {xs : List Value} (h : w.ownsRow base 9 1 v n xs) (hB : Below w.heap.size w w') : w'.ownsRow base 9 1 v n xs := by
  have hl := h.lt
  refine ⟨h.1, ?_⟩
  rcases h.2 with h0 | ⟨g, cap, cur, rfl, hb, hg, h1⟩
  · exact .inl h0
  · exact .inr ⟨g, cap, cur, rfl, hb, (hB.block g (hl g rfl).2).trans hg, h1⟩

theorem says_same {s : ByteArray} {n m : Nat} {xs ys : List ByteArray} {b d : Bool} (h1 : SplitSays s n xs b) (h2 : SplitSays s m ys d) : n = m ∧ xs = ys ∧ b = d := by
  have e : xs = ys := by rw [h1.2.1, h2.2.1]
  exact ⟨by rw [h1.1, h2.1, e], e, by rw [h1.2.2.1, h2.2.2.1]⟩

set_option maxHeartbeats 2000000 in
set_option maxRecDepth 100000 in
theorem law3 (s : ByteArray) (w : World) (hs : s.size ≤ maxLen) :
    Calls Try.prog 3 #[.string s] w fun e w' => e = .returned (.bool true) ∧ Below w.heap.size w w' := by
  have h63 : s.size ≤ 9223372036854775807 := by unfold maxLen at hs; omega
  clear hs
  by_cases hbig : 20000 < s.size
  · go_enter Try.func3, Try.ntmps3
    go_wp2
    go_ret
    exact ⟨rfl, Below.refl _ _⟩
  · go_enter Try.func3, Try.ntmps3
    go_wp2_with fail
    go_at_call 10
    refine (split_s s (by omega) _).mono ?_
    rintro e w1 ⟨A1, c1, n, zs, b, rfl, hS1, hO1, hR1, hB1⟩
    have hn : n ≤ 20000 := by have := hS1.2.2.2; omega
    have hz1 := hB1.size
    have S1 := Lib.hid hS1
    clear hS1
    go_wp2_with fail
    go_at_call 11
    refine (refSplit11 s (by omega) _).mono ?_
    rintro e w2 ⟨A2, c2, m, ys, d, rfl, hS2, hO2, hR2, hB2⟩
    obtain ⟨rfl, rfl, rfl⟩ := says_same S1.out hS2
    have hz2 := hB2.size
    have HB2 := hB1.trans (hB2.mono hz1)
    have hO1' := own_below hO1 hB2
    have HL := Lib.hid hO1.lt
    have HL2 := Lib.hid hO2.lt
    have p1 := (hR1.below hB2).more hz2
    clear hS2 hO1 hR1 hB1 hB2
    go_wp2_with fail
    go_at_call 12
    refine (same12_b _ _ c1 c2 n n zs zs w2 true S1.out.1 S1.out.1 (by omega) (by omega) (by simp) p1 hR2).mono ?_
    rintro e w3 ⟨rfl, hB3⟩
    have hz3 := hB3.size
    have HB3 := HB2.trans (hB3.mono (by omega))
    have k1 := own_below hO1' hB3
    have k2 := own_below hO2 hB3
    clear p1 hR2 HB2 hB3 hO1' hO2
    cases b
    all_goals
      go_wp2_with fail
      go_loopg [7] n (fun g s7 wr => ∃ (k : Nat) (us : List Value), k ≤ n ∧ n - k ≤ g ∧ s7 = .int .i64 k ∧ wr.ownsRow w.heap.size 9 1 (.slice A1 n c1) n us ∧ wr.ownsRow w1.heap.size 9 1 (.slice A2 n c2) n (zs.map Value.string) ∧ Below w.heap.size w wr)
      case atStart => exact ⟨0, _, Nat.zero_le _, by omega, rfl, k1, k2, HB3⟩
      case round =>
        obtain ⟨k, us, hk, hg, rfl, ho1, ho2, hBr⟩ := hrel
        by_cases hlt : k < n
        · obtain ⟨g, cap, hv, hgb, hgl⟩ := ho1.form (by omega)
          obtain ⟨hA, _, rfl⟩ : A1 = some ⟨g, 0, none⟩ ∧ n = n ∧ c1 = cap := by injection hv with h1 h2 h3; exact ⟨h1, h2, h3⟩
          subst hA
          have hus : k < us.length := by rw [ho1.1]; omega
          have hcell := ho1.cellAt k (by omega)
          rw [List.getElem?_eq_getElem hus] at hcell
          have hfr := ho1.frozenAt k
          have hst := ho1.stored k (.string ⟨#[63]⟩)
          have hne : Value.ownBlock (.slice A2 n c2) = none ∨ Value.ownBlock (.slice A2 n c2) ≠ some g := by
            right
            intro e
            have a1 := (HL.out g rfl).2
            have a2 := (HL2.out g e).1
            omega
          have h2' := Lib.hid (ho2.kept hst.2 hne)
          have h1' := Lib.hid hst.1
          have hB' := Lib.hid (hBr.setCell (p := ⟨g, k, none⟩) hgb (.string ⟨#[63]⟩))
          clear hst hne hv
          go_wp2
          go_roundg (n - (k + 1))
          case measure => omega
          case rel => exact ⟨k + 1, _, by omega, by omega, by go_num, h1'.out, h2'.out, hB'.out⟩
        · have hkn : k = n := by omega
          subst hkn
          have hzr := hBr.size
          have r2 : SRd wr wr.heap.size A2 zs := SRd.of_row (zs := zs) (more := []) (m := k) (c := c2) (base := w1.heap.size) (by rw [List.append_nil]; exact S1.out.1) (by simpa using ho2)
          clear k1 k2 HB3 ho1 ho2
          go_wp2_with fail
          go_at_call 10
          refine (split_s s (by omega) _).mono ?_
          rintro e w4 ⟨A3, c3, n3, z3, b3, rfl, hS3, _, hR3, hB4⟩
          obtain ⟨rfl, rfl, rfl⟩ := says_same S1.out hS3
          have hz4 := hB4.size
          have r3 := (r2.below hB4).more hz4
          have HB4 := hBr.trans (hB4.mono hzr)
          clear hS3 r2 hBr hB4
          go_wp2_with fail
          go_at_call 12
          refine (same12_b _ _ c3 c2 _ _ zs zs w4 true S1.out.1 S1.out.1 (by omega) (by omega) (by simp) hR3 r3).mono ?_
          rintro e w5 ⟨rfl, hB5⟩
          have hz5 := hB5.size
          have HB5 := HB4.trans (hB5.mono (by omega))
          clear hR3 r3 HB4 hB5
          go_wp2_with fail
          go_at_call 13
          refine (does13 w5).mono ?_
          rintro e w6 ⟨rfl, hB6⟩
          have HB6 := HB5.trans (hB6.mono (by omega))
          clear HB5 hB6
          go_wp2
          go_ret
          exact ⟨rfl, HB6⟩
end Go.Proofs.Ytgiffkpneloghaa
