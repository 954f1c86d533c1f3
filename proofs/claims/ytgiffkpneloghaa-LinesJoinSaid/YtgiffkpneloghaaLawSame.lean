/- The law LinesSame, walked: for every two lists of texts it is true, and nothing that was there has turned. -/
import Derived.Test.YtgiffkpneloghaaDoes
namespace Go.Proofs.Ytgiffkpneloghaa
open Go.RowKit Go.Shelf Go.Lib

theorem same22_b (A1 A2 : Option Addr) (c d n m : Nat) (xs ys : List ByteArray) (w : World) (b : Bool) (hn : n = xs.length) (hm : m = ys.length) (hn1 : n ≤ 100000) (hm1 : m ≤ 100000) (hb : decide (xs = ys) = b) (h1 : SRd w w.heap.size A1 xs) (h2 : SRd w w.heap.size A2 ys) :
    Calls Try.prog 22 #[.slice A1 n c, .slice A2 m d] w fun e w' => e = .returned (.bool b) ∧ Below w.heap.size w w' := by
  subst hb
  refine (same22 A1 A2 c d w.heap.size n m xs ys _ hn hm (by omega) (by omega) h1 h2).mono ?_
  rintro e w' ⟨rfl, q, rfl⟩
  exact ⟨rfl, below_drewN (Below.refl _ w) _⟩

theorem TwinAt.reads {w w' : World} {zs : List ByteArray} {v : Value} (h : TwinAt w zs v w') : ∃ g cap, v = .slice (some ⟨g, 0, none⟩) zs.length cap ∧ SRd w' w'.heap.size (some ⟨g, 0, none⟩) zs ∧ Below w.heap.size w w' := by
  obtain ⟨g, cap, hv, hr, hB⟩ := h
  exact ⟨g, cap, hv, SRd.of_row (zs := zs) (more := [star]) (m := zs.length + 1) (by simp) hr, hB⟩

set_option maxHeartbeats 2000000 in
set_option maxRecDepth 100000 in
theorem law5 (A1 A2 : Option Addr) (c d n m : Nat) (xs ys : List ByteArray) (w : World) (hn : n = xs.length) (hm : m = ys.length) (hc0 : A1 = none → c = 0) (hn63 : n ≤ maxLen) (hm63 : m ≤ maxLen)
    (hx : ∀ z ∈ xs, z.size ≤ maxLen) (hy : ∀ z ∈ ys, z.size ≤ maxLen) (h1 : SRd w w.heap.size A1 xs) (h2 : SRd w w.heap.size A2 ys) :
    Calls Try.prog 5 #[.slice A1 n c, .slice A2 m d] w fun e w' => e = .returned (.bool true) ∧ Below w.heap.size w w' := by
  have C1 := Lib.hid (great A1 c w.heap.size n 1000 50000 xs w hn (by unfold maxLen at hn63; omega) (by omega) (by omega) hx h1)
  have C2 := Lib.hid (great A2 d w.heap.size m 1000 50000 ys w hm (by unfold maxLen at hm63; omega) (by omega) (by omega) hy h2)
  have H1 := Lib.hid hn
  have H2 := Lib.hid hm
  have H0 := Lib.hid hc0
  clear hn hm hx hy hn63 hm63 hc0
  go_enter Try.func5, Try.ntmps5
  go_wp2_with fail
  go_at_call 14
  refine C1.out.mono ?_
  rintro e w' ⟨(rfl | ⟨rfl, g1, _⟩), rfl⟩
  · go_wp2
    go_ret
    exact ⟨rfl, Below.refl _ _⟩
  · go_wp2_with fail
    go_at_call 14
    refine C2.out.mono ?_
    rintro e w' ⟨(rfl | ⟨rfl, g2, _⟩), rfl⟩
    · go_wp2
      go_ret
      exact ⟨rfl, Below.refl _ _⟩
    · clear C1 C2
      have l1 : n ≤ 1000 := by rw [H1.out]; exact g1
      have l2 : m ≤ 1000 := by rw [H2.out]; exact g2
      clear g1 g2
      obtain ⟨b, hb⟩ : ∃ b, decide (xs = ys) = b := ⟨_, rfl⟩
      have hb' : decide (ys = xs) = b := by rw [← hb]; exact decide_eq_decide.2 ⟨Eq.symm, Eq.symm⟩
      have HB := Lib.hid hb
      have HB' := Lib.hid hb'
      clear hb hb'
      cases b
      all_goals
        go_wp2_with fail
        go_at_call 21
        refine (same21_b _ _ _ _ n m xs ys w _ H1.out H2.out (by omega) (by omega) HB.out h1 h2).mono ?_
        rintro e w1 ⟨rfl, hB1⟩
        have hz1 := hB1.size
        have p1 := (h1.below hB1).more hz1
        have p2 := (h2.below hB1).more hz1
        clear h1 h2
        go_wp2_with fail
        go_at_call 22
        refine (same22_b _ _ _ _ n m xs ys w1 _ H1.out H2.out (by omega) (by omega) HB.out p1 p2).mono ?_
        rintro e w2 ⟨rfl, hB2⟩
        have hz2 := hB2.size
        have q1 := (p1.below hB2).more hz2
        have q2 := (p2.below hB2).more hz2
        have HB2 := hB1.trans (hB2.mono hz1)
        clear p1 p2 hB1 hB2
        go_wp2_with fail
        go_at_call 21
        refine (same21_b _ _ _ _ m n ys xs w2 _ H2.out H1.out (by omega) (by omega) HB'.out q2 q1).mono ?_
        rintro e w3 ⟨rfl, hB3⟩
        have hz3 := hB3.size
        have p1 := (q1.below hB3).more hz3
        have p2 := (q2.below hB3).more hz3
        have HB3 := HB2.trans (hB3.mono (by omega))
        clear q1 q2 HB2 hB3
        go_wp2_with fail
        go_at_call 21
        refine (same21_b _ _ _ _ n m xs ys w3 _ H1.out H2.out (by omega) (by omega) HB.out p1 p2).mono ?_
        rintro e w4 ⟨rfl, hB4⟩
        have hz4 := hB4.size
        have q1 := (p1.below hB4).more hz4
        have HB4 := HB3.trans (hB4.mono (by omega))
        clear p1 p2 HB3 hB4
        go_wp2_with fail
        go_at_call 15
        refine (twin15 _ _ n xs w4 H1.out H0.out (by omega) q1).mono ?_
        rintro e w5 ⟨v, rfl, ht⟩
        obtain ⟨g, cap, rfl, p2, hB5⟩ := ht.reads
        have hz5 := hB5.size
        have p1 := (q1.below hB5).more hz5
        have HB5 := HB4.trans (hB5.mono (by omega))
        clear q1 HB4 hB5 ht
        go_wp2_with fail
        go_at_call 21
        refine (same21_b _ _ _ _ n xs.length xs xs w5 true H1.out rfl (by omega) (by rw [← H1.out]; omega) (by simp) p1 p2).mono ?_
        rintro e w6 ⟨rfl, hB6⟩
        have hz6 := hB6.size
        have HB6 := HB5.trans (hB6.mono (by omega))
        clear p1 p2 HB5 hB6
        go_wp2_with fail
        go_at_call 13
        refine (does13 w6).mono ?_
        rintro e w7 ⟨rfl, hB7⟩
        have HB7 := HB6.trans (hB7.mono (by omega))
        clear HB6 hB7
        go_wp2
        go_ret
        exact ⟨rfl, HB7⟩
end Go.Proofs.Ytgiffkpneloghaa
