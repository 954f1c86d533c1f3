/- The law NumsPut, walked: for every number, text and list it is true, and nothing that was there has turned. -/
import Derived.Test.YtcjcdbiknidahaaDoorDoes
namespace Go.Proofs.YtcjcdbiknidahaaDoor
open Go.RowKit Go.Lib

set_option maxHeartbeats 1000000 in
set_option maxRecDepth 100000 in
theorem left18 (A : Option Addr) (c g cap n base : Nat) (zs : List ByteArray) (w : World) (hn : n = zs.length) (hb : n ≤ 100000) (ho : w.ownsRow base 9 1 (.slice (some ⟨g, 0, none⟩) (n + 1) cap) (n + 1) ((zs ++ [star]).map Value.string)) (h : SRd w w.heap.size A zs) :
    Calls Tryd.prog 18 #[.slice (some ⟨g, 0, none⟩) n cap, .slice A n c] w fun e w' => e = .returned (.bool true) ∧ Below w.heap.size w w' := by
  have hcap := own_cap ho
  unfold maxLen at hcap
  obtain ⟨hcap, hmx⟩ := hcap
  have hR : SRd w w.heap.size (some ⟨g, 0, none⟩) zs := SRd.of_row (zs := zs) (more := [star]) (m := n + 1) (by rw [List.length_append, ← hn]; rfl) ho
  have HN := Lib.hid hn
  have HST : Hid (((zs ++ [star]).map Value.string)[n]? = some (.string star)) := Lib.hid (by rw [hn]; simp)
  have C := Lib.hid (same26_b (some ⟨g, 0, none⟩) A cap c n n zs zs w true hn hn hb hb (by simp) hR h)
  have HO := Lib.hid ho
  clear hn ho hR h
  go_enter Tryd.func18, Tryd.ntmps18
  go_wp2_with fail
  go_at_call 26
  refine C.out.mono ?_
  rintro e w1 ⟨rfl, hB1⟩
  have hcell := (own_below HO.out hB1).cellAt n (by omega)
  rw [HST.out] at hcell
  go_wp2
  go_ret
  exact ⟨rfl, hB1⟩

/-- The program's Put and the document's tell one text of each number. -/
theorem bothPut (n : Int) (hn : n ≤ 9223372036854775807) : ∃ x : List UInt8, (∀ w : World, Vars w.heap.size w → Calls Tryd.prog 12 #[.int .i64 n] w fun e w' => e = .returned (.string (B x)) ∧ Below w.heap.size w w') ∧
    (∀ w : World, Calls Tryd.prog 13 #[.int .i64 n] w fun e w' => e = .returned (.string (B x)) ∧ Below w.heap.size w w') := by
  by_cases h : 0 ≤ n
  · obtain ⟨m, rfl⟩ : ∃ m : Nat, n = m := ⟨n.toNat, by omega⟩
    exact ⟨putN m, fun w hV => put12 m w (by unfold MX; omega) hV, fun w => refPut13 m w (by unfold MX; omega)⟩
  · refine ⟨[], fun w _ => (putNo12 n w (by omega)).mono ?_, fun w => (refPutNo13 n w (by omega)).mono ?_⟩
    all_goals
      rintro e w' ⟨rfl, rfl⟩
      exact ⟨rfl, Below.refl _ _⟩

set_option maxHeartbeats 4000000 in
set_option maxRecDepth 100000 in
theorem law3 (a : Int) (s : ByteArray) (A : Option Addr) (c n : Nat) (zs : List ByteArray) (w : World) (ha : (Lit.int .i64 a).wf = true) (hs : s.size ≤ maxLen) (hn : n = zs.length) (hc0 : A = none → c = 0) (hn63 : n ≤ maxLen)
    (hz : ∀ z ∈ zs, z.size ≤ maxLen) (h1 : SRd w w.heap.size A zs) (hV : Vars w.heap.size w) :
    Calls Tryd.prog 3 #[.int .i64 a, .string s, .slice A n c] w fun e w' => e = .returned (.bool true) ∧ Below w.heap.size w w' := by
  have hsM : s.size ≤ 9223372036854775807 := by unfold maxLen at hs; exact hs
  have hnM : n ≤ 9223372036854775807 := by unfold maxLen at hn63; exact hn63
  have ha1 : a ≤ 9223372036854775807 := by simp [Lit.wf, IntKind.min, IntKind.max, IntKind.signed, IntKind.bits] at ha; omega
  obtain ⟨x, P, R⟩ := bothPut a ha1
  have P := Lib.hid P
  have R := Lib.hid R
  clear ha ha1 hs
  by_cases hbig : 20000 < s.size
  · clear hz hn hc0
    go_enter Tryd.func3, Tryd.ntmps3
    go_wp2
    go_ret
    exact ⟨rfl, Below.refl _ _⟩
  · have C1 := Lib.hid (great A c w.heap.size n 1000 20000 zs w hn hnM (by omega) (by omega) hz h1)
    have HN := Lib.hid hn
    have H0 := Lib.hid hc0
    clear hn hz hn63 hc0
    go_enter Tryd.func3, Tryd.ntmps3
    go_wp2_with fail
    go_at_call 10
    refine C1.out.mono ?_
    rintro e w' ⟨(rfl | ⟨rfl, g1, g2⟩), rfl⟩
    · go_wp2
      go_ret
      exact ⟨rfl, Below.refl _ _⟩
    · have l1 : n ≤ 1000 := by rw [HN.out]; exact g1
      clear C1 g1
      go_wp2_with fail
      go_at_call 11
      refine (twin15 _ _ n zs w HN.out H0.out (by omega) h1).mono ?_
      rintro e w1 ⟨v, rfl, ht⟩
      obtain ⟨g, cap, rfl, ho, hB1⟩ := ht
      rw [← HN.out] at ho
      have HO := Lib.hid ho
      have V1 := hV.next hB1
      have hz1 := hB1.size
      have p1 := (h1.below hB1).more hz1
      have p2 : SRd w1 w1.heap.size (some ⟨g, 0, none⟩) zs := SRd.of_row (zs := zs) (more := [star]) (m := n + 1) (by rw [List.length_append, ← HN.out]; rfl) ho
      clear ho h1 hV
      rw [← HN.out]
      go_wp2_with fail
      go_at_call 12
      refine (P.out w1 V1).mono ?_
      rintro e w2 ⟨rfl, hB2⟩
      have V2 := V1.next hB2
      have HO2 := Lib.hid (own_below HO.out hB2)
      have q1 := (p1.below hB2).more hB2.size
      have q2 := (p2.below hB2).more hB2.size
      have HB2 := hB1.trans (hB2.mono hz1)
      have hz2 := HB2.size
      clear p1 p2 hB1 hB2 HO V1
      go_wp2_with fail
      go_at_call 13
      refine (R.out w2).mono ?_
      rintro e w3 ⟨rfl, hB3⟩
      have V3 := V2.next hB3
      have HO3 := Lib.hid (own_below HO2.out hB3)
      have p1 := (q1.below hB3).more hB3.size
      have p2 := (q2.below hB3).more hB3.size
      have HB3 := HB2.trans (hB3.mono hz2)
      have hz3 := HB3.size
      clear q1 q2 HB2 hB3 HO2 V2
      go_wp2_with fail
      go_at_call 14
      refine (putText14 s w3 (by omega) V3).mono ?_
      rintro e w4 ⟨rfl, hB4⟩
      have V4 := V3.next hB4
      have HO4 := Lib.hid (own_below HO3.out hB4)
      have q1 := (p1.below hB4).more hB4.size
      have q2 := (p2.below hB4).more hB4.size
      have HB4 := HB3.trans (hB4.mono hz3)
      have hz4 := HB4.size
      clear p1 p2 HB3 hB4 HO3 V3
      go_wp2_with fail
      go_at_call 15
      refine (refPutText15 s w4 (by omega)).mono ?_
      rintro e w5 ⟨rfl, hB5⟩
      have V5 := V4.next hB5
      have HO5 := Lib.hid (own_below HO4.out hB5)
      have p1 := (q1.below hB5).more hB5.size
      have p2 := (q2.below hB5).more hB5.size
      have HB5 := HB4.trans (hB5.mono hz4)
      have hz5 := HB5.size
      clear q1 q2 HB4 hB5 HO4 V4
      go_wp2_with fail
      go_at_call 16
      refine (putList16 _ cap n zs w5 HN.out (by omega) (by omega) p2 V5).mono ?_
      rintro e w6 ⟨rfl, hB6⟩
      have V6 := V5.next hB6
      have HO6 := Lib.hid (own_below HO5.out hB6)
      have q1 := (p1.below hB6).more hB6.size
      have HB6 := HB5.trans (hB6.mono hz5)
      have hz6 := HB6.size
      clear p1 p2 HB5 hB6 HO5 V5
      go_wp2_with fail
      go_at_call 17
      refine (refPutList17 _ _ n zs w6 HN.out (by omega) (by omega) q1).mono ?_
      rintro e w7 ⟨rfl, hB7⟩
      have V7 := V6.next hB7
      have HO7 := Lib.hid (own_below HO6.out hB7)
      have p1 := (q1.below hB7).more hB7.size
      have HB7 := HB6.trans (hB7.mono hz6)
      have hz7 := HB7.size
      clear q1 HB6 hB7 HO6 V6
      go_wp2_with fail
      go_at_call 18
      refine (left18 _ _ g cap n _ zs w7 HN.out (by omega) HO7.out p1).mono ?_
      rintro e w8 ⟨rfl, hB8⟩
      have V8 := V7.next hB8
      have HB8 := HB7.trans (hB8.mono hz7)
      have hz8 := HB8.size
      clear p1 HB7 hB8 HO7 V7
      go_wp2_with fail
      go_at_call 19
      refine (does19 w8 V8).mono ?_
      rintro e w9 ⟨rfl, hB9⟩
      have HB9 := HB8.trans (hB9.mono hz8)
      clear HB8 hB9 V8
      go_wp2
      go_ret
      exact ⟨rfl, HB9⟩
end Go.Proofs.YtcjcdbiknidahaaDoor
