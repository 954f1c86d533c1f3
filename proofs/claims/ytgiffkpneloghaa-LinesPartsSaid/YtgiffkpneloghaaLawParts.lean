/- The law LinesParts, walked: for every two texts it is true, and nothing that was there has turned. -/
import Derived.Test.YtgiffkpneloghaaLawMay
import Derived.Laws.AppendOwnNone
namespace Go.Proofs.Ytgiffkpneloghaa
open Go.RowKit Go.Shelf Go.Lib

theorem SRd.cells {w : World} {n₀ : Nat} {ad : Addr} {zs : List ByteArray} (h : SRd w n₀ (some ad) zs) : ∀ j u, (zs.map Value.string)[j]? = some u → w.cell? (ad.add j) = some u := fun j u hu => by
  obtain ⟨hj, hu⟩ := List.getElem?_eq_some_iff.1 hu
  have hj' : j < zs.length := by simpa using hj
  obtain ⟨b, off, e, hb, hcell⟩ := h (by omega)
  injection e with e
  subst e
  have := hcell j hj'
  rw [Go.WideShapes.add_plain, this, ← hu]
  simp [List.getD, List.getElem?_eq_getElem hj']

/-- append(own, list...), the list nil or not. -/
theorem wpList_append_list {w : World} {ops : Array Oper} {rest : List Oper} {o : Oper} {a : Act} {Q : Exit → Act → World → Prop} (hgd : o.guard = none) (s x : Operand)
    (ho : o.op = .call { callee := .builtin .append, args := #[s, x], argTypes := #[22, 22] })
    (base : Nat) (v : Value) (n : Nat) (xs : List Value) (hs : a.eval s = v) (hown : w.ownsRow base 9 1 v n xs)
    (A : Option Addr) (m c n₀ : Nat) (zs : List ByteArray) (hx : a.eval x = .slice A m c) (hm : m = zs.length) (hA : A = none → c = 0) (hr : SRd w n₀ A zs)
    (h63 : n + m ≤ 1000000) (hbase : base ≤ w.heap.size)
    (h : ∀ v' w', w'.ownsRow base 9 1 v' (n + m) (xs ++ zs.map Value.string) → w.grownBy w' v.ownBlock → wpList Try.prog ops Q rest (a.put o.dst v') w') : wpList Try.prog ops Q (o :: rest) a w := by
  obtain ⟨i0, hi, hz0, hz1, hz2⟩ := info_parts info9
  have hml : (1000000 : Nat) ≤ maxLen := by unfold maxLen; omega
  rcases A with _ | ad
  · obtain rfl : c = 0 := hA rfl
    obtain rfl : m = 0 := by
      rcases Nat.eq_zero_or_pos m with h0 | h0
      · exact h0
      · obtain ⟨_, _, h, _⟩ := hr (by omega)
        cases h
    obtain rfl : zs = [] := List.eq_nil_of_length_eq_zero hm.symm
    exact wpList_append_own_none hgd s x 22 ho base 9 i0 1 Try.underlying22 hi v n xs hs hown hx (h v w (by simpa using hown) (World.grownBy.refl w _))
  · exact wpList_append_own w hgd s x 22 ho base 9 i0 (.string ⟨#[]⟩) 1 16 Try.underlying22 hi hz0 hz1 hz2 rfl (by decide) v n xs hs hown ad m c (zs.map Value.string) hx (by rw [List.length_map]; omega) hr.cells (one_strs _) (by omega) (by omega) hbase (fun v' w' h1 h2 _ => h v' w' h1 h2)

theorem own_form {w : World} {base n : Nat} {v : Value} {xs : List Value} (h : w.ownsRow base 9 1 v n xs) : ∃ A c, v = .slice A n c := by
  rcases h.2 with ⟨hv, h0⟩ | ⟨g, cap, _, hv, _⟩
  · exact ⟨none, 0, by rw [hv, h0]⟩
  · exact ⟨_, _, hv⟩
theorem own_nil {w : World} {base n c : Nat} {A : Option Addr} {xs : List Value} (h : w.ownsRow base 9 1 (.slice A n c) n xs) : A = none → c = 0 := by
  intro hA
  subst hA
  rcases h.2 with ⟨hv, h0⟩ | ⟨g, cap, _, hv, _⟩
  · injection hv
  · injection hv with h; cases h

theorem append_list (a b : ByteArray) : (a ++ b).data.toList = a.data.toList ++ b.data.toList := by simp

theorem parts_says {a b : ByteArray} {n1 n2 n3 : Nat} {z1 z2 z3 : List ByteArray} {b2 b3 : Bool} (h1 : SplitSays a n1 z1 true) (h2 : SplitSays b n2 z2 b2) (h3 : SplitSays (a ++ b) n3 z3 b3) : z3 = z1 ++ z2 ∧ b3 = b2 := by
  have he : endedL a.data.toList = true := h1.2.2.1.symm
  refine ⟨?_, ?_⟩
  · rw [h3.2.1, h1.2.1, h2.2.1, append_list, lns_append _ _ he]; simp [texts]
  · have := endedL_append a.data.toList b.data.toList he
    rw [h3.2.2.1, h2.2.2.1, append_list]; exact this

set_option maxHeartbeats 2000000 in
set_option maxRecDepth 100000 in
theorem law9 (s1 s2 : ByteArray) (w : World) (hs1 : s1.size ≤ maxLen) (hs2 : s2.size ≤ maxLen) :
    Calls Try.prog 9 #[.string s1, .string s2] w fun e w' => e = .returned (.bool true) ∧ Below w.heap.size w w' := by
  have h63 : s1.size ≤ 9223372036854775807 := by unfold maxLen at hs1; omega
  have h64 : s2.size ≤ 9223372036854775807 := by unfold maxLen at hs2; omega
  clear hs1 hs2
  by_cases hbig1 : 10000 < s1.size
  · go_enter Try.func9, Try.ntmps9
    go_wp2
    go_ret
    exact ⟨rfl, Below.refl _ _⟩
  · by_cases hbig2 : 10000 < s2.size
    · go_enter Try.func9, Try.ntmps9
      go_wp2
      go_ret
      exact ⟨rfl, Below.refl _ _⟩
    · have hsz : (s1 ++ s2).size ≤ 20000 := by rw [ByteArray.size_append]; omega
      go_enter Try.func9, Try.ntmps9
      go_wp2_with fail
      go_at_call 10
      refine (split_s s1 (by omega) _).mono ?_
      rintro e w1 ⟨A1, c1, n1, z1, b1, rfl, hS1, hO1, hR1, hB1⟩
      have hn1 : n1 ≤ 10000 := by have := hS1.2.2.2; omega
      have hz1 := hB1.size
      have N1 := Lib.hid (own_nil hO1)
      have S1 := Lib.hid hS1
      clear hS1 hO1
      go_wp2_with fail
      go_at_call 10
      refine (split_s s2 (by omega) _).mono ?_
      rintro e w2 ⟨A2, c2, n2, z2, b2, rfl, hS2, hO2, hR2, hB2⟩
      have hn2 : n2 ≤ 10000 := by have := hS2.2.2.2; omega
      have hz2 := hB2.size
      have N2 := Lib.hid (own_nil hO2)
      have S2 := Lib.hid hS2
      have HB2 := hB1.trans (hB2.mono hz1)
      have p1 := (hR1.below hB2).more hz2
      clear hS2 hO2 hR1 hB1 hB2
      go_wp2_with fail
      go_at_call 10
      refine (split_s (s1 ++ s2) (by omega) _).mono ?_
      rintro e w3 ⟨A3, c3, n3, z3, b3, rfl, hS3, _, hR3, hB3⟩
      have hn3 : n3 ≤ 20000 := by have := hS3.2.2.2; omega
      have hz3 := hB3.size
      have S3 := Lib.hid hS3
      have HB3 := HB2.trans (hB3.mono (by omega))
      have q1 := (p1.below hB3).more hz3
      have q2 := (hR2.below hB3).more hz3
      clear hS3 p1 hR2 HB2 hB3
      cases b1
      · go_wp2_with fail
        go_at_call 13
        refine (does13 w3).mono ?_
        rintro e w4 ⟨rfl, hB4⟩
        have HB4 := HB3.trans (hB4.mono (by omega))
        clear HB3 hB4
        go_wp2
        go_ret
        exact ⟨rfl, HB4⟩
      · obtain ⟨hz, rfl⟩ := parts_says S1.out S2.out S3.out
        have HZ : Hid (decide (z3 = z1 ++ z2) = true) := Lib.hid (by rw [hz]; simp)
        clear hz
        have hL := World.ownsRow_lit (base := w3.heap.size) (e := 9) (size := 1) w3 #[] 0 (Nat.le_refl _) (Nat.zero_le _) rfl
        go_wp2_with (first
          | (at_builtin; refine wpList_append_list rfl (.tmp 40) (.tmp 41) rfl w3.heap.size _ 0 [] rfl hL A1 n1 c1 _ z1 rfl S1.out.1 N1.out (q1.alloc (Nat.le_refl _) _) (by omega) (by simp) ?_; intro v4 w4 hown4 hgrow4; have hz4 := hgrow4.size; have hB4 := ((Below.refl w3.heap.size w3).alloc (Nat.le_refl _) (.cells #[] 9)).grown hgrow4 (by simp) (fun k hk => (hL.lt k hk).1); have r2 := q2.below hB4)
          | (at_builtin; refine wpList_append_list rfl (.tmp 42) (.tmp 43) rfl w3.heap.size _ _ _ rfl hown4 A2 n2 c2 _ z2 rfl S2.out.1 N2.out r2 (by omega) hB4.size ?_; intro v5 w5 hown5 hgrow5; have hz5 := hgrow5.size; have hB5 := hB4.grown hgrow5 hB4.size (fun k hk => (hown4.lt k hk).1); have r3 := (hR3.below hB5).more hB5.size; obtain ⟨A5, c5, rfl⟩ := own_form hown5))
        have r5 : SRd w5 w5.heap.size A5 (z1 ++ z2) := SRd.of_row (more := []) (m := 0 + n1 + n2) (base := w3.heap.size) (c := c5) (by rw [S1.out.1, S2.out.1]; simp) (by simpa using hown5)
        have HB5 := HB3.trans (hB5.mono (by omega))
        have hz6 := hB5.size
        go_at_call 12
        refine (same12_b A3 A5 c3 c5 n3 _ z3 (z1 ++ z2) w5 true S3.out.1 (by rw [S1.out.1, S2.out.1]; simp) (by omega) (by omega) HZ.out r3 r5).mono ?_
        rintro e w6 ⟨rfl, hB6⟩
        have hz7 := hB6.size
        have HB6 := HB5.trans (hB6.mono (by omega))
        clear r3 r5 HB5 hB6 hown4 hown5 hgrow4 hgrow5 hL HB3 hB5 hB4 r2 q1 q2 hR3
        cases b3
        all_goals
          go_wp2_with fail
          go_at_call 13
          refine (does13 w6).mono ?_
          rintro e w7 ⟨rfl, hB7⟩
          have HB7 := HB6.trans (hB7.mono (by omega))
          clear HB6 hB7
          go_wp2
          go_ret
          exact ⟨rfl, HB7⟩
end Go.Proofs.Ytgiffkpneloghaa
