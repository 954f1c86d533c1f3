/- The law LinesJoin, walked: for every list of texts it is true, and nothing that was there has turned. -/
import Derived.Test.YtgiffkpneloghaaRefs2
import Derived.Test.YtgiffkpneloghaaLawSplit
import Derived.Test.YtgiffkpneloghaaLawSame
namespace Go.Proofs.Ytgiffkpneloghaa
open Go.RowKit Go.Shelf Go.Lib

set_option maxHeartbeats 1000000 in
set_option maxRecDepth 100000 in
theorem left20 (A : Option Addr) (c g cap n base : Nat) (zs : List ByteArray) (w : World) (hn : n = zs.length) (hb : n ≤ 100000) (ho : w.ownsRow base 9 1 (.slice (some ⟨g, 0, none⟩) (n + 1) cap) (n + 1) ((zs ++ [star]).map Value.string)) (h : SRd w w.heap.size A zs) :
    Calls Try.prog 20 #[.slice (some ⟨g, 0, none⟩) n cap, .slice A n c] w fun e w' => e = .returned (.bool true) ∧ Below w.heap.size w w' := by
  have hcap := own_cap ho
  unfold maxLen at hcap
  obtain ⟨hcap, hmx⟩ := hcap
  have hR : SRd w w.heap.size (some ⟨g, 0, none⟩) zs := SRd.of_row (zs := zs) (more := [star]) (m := n + 1) (by rw [List.length_append, ← hn]; rfl) ho
  have HN := Lib.hid hn
  have HST : Hid (((zs ++ [star]).map Value.string)[n]? = some (.string star)) := Lib.hid (by rw [hn]; simp)
  have C := Lib.hid (same12_b (some ⟨g, 0, none⟩) A cap c n n zs zs w true hn hn hb hb (by simp) hR h)
  have HO := Lib.hid ho
  clear hn ho hR h
  go_enter Try.func20, Try.ntmps20
  go_wp2_with fail
  go_at_call 12
  refine C.out.mono ?_
  rintro e w1 ⟨rfl, hB1⟩
  have hcell := (own_below HO.out hB1).cellAt n (by omega)
  rw [HST.out] at hcell
  go_wp2
  go_ret
  exact ⟨rfl, hB1⟩

set_option maxHeartbeats 2000000 in
set_option maxRecDepth 100000 in
theorem law4 (A : Option Addr) (c n : Nat) (zs : List ByteArray) (w : World) (hn : n = zs.length) (hc0 : A = none → c = 0) (hn63 : n ≤ maxLen)
    (hz : ∀ z ∈ zs, z.size ≤ maxLen) (h1 : SRd w w.heap.size A zs) :
    Calls Try.prog 4 #[.slice A n c] w fun e w' => e = .returned (.bool true) ∧ Below w.heap.size w w' := by
  have C1 := Lib.hid (great A c w.heap.size n 3000 50000 zs w hn (by unfold maxLen at hn63; omega) (by omega) (by omega) hz h1)
  have HN := Lib.hid hn
  have HZ := Lib.hid hz
  have H0 := Lib.hid hc0
  clear hn hz hn63 hc0
  go_enter Try.func4, Try.ntmps4
  go_wp2_with fail
  go_at_call 14
  refine C1.out.mono ?_
  rintro e w' ⟨(rfl | ⟨rfl, g1, g2⟩), rfl⟩
  · go_wp2
    go_ret
    exact ⟨rfl, Below.refl _ _⟩
  · have l1 : n ≤ 3000 := by rw [HN.out]; exact g1
    clear C1 g1
    go_wp2_with fail
    go_at_call 15
    refine (twin15 _ _ n zs w HN.out H0.out (by omega) h1).mono ?_
    rintro e w1 ⟨v, rfl, ht⟩
    obtain ⟨g, cap, rfl, ho, hB1⟩ := ht
    rw [← HN.out] at ho
    have HO := Lib.hid ho
    have hz1 := hB1.size
    have p1 := (h1.below hB1).more hz1
    have p2 : SRd w1 w1.heap.size (some ⟨g, 0, none⟩) zs := SRd.of_row (zs := zs) (more := [star]) (m := n + 1) (by rw [List.length_append, ← HN.out]; rfl) ho
    clear ho h1
    rw [← HN.out]
    go_wp2_with fail
    go_at_call 16
    refine (join16 _ cap n zs w1 HN.out (by omega) (by omega) p2).mono ?_
    rintro e w2 ⟨rfl, hB2⟩
    have hz2 := hB2.size
    have HO2 := Lib.hid (own_below HO.out hB2)
    have q1 := (p1.below hB2).more hz2
    have q2 := (p2.below hB2).more hz2
    have HB2 := hB1.trans (hB2.mono hz1)
    clear p1 p2 hB1 hB2 HO
    go_wp2_with fail
    go_at_call 17
    refine (refJoin17 _ _ n _ zs w2 HN.out (by omega) (by omega) q1).mono ?_
    rintro e w3 ⟨rfl, rfl⟩
    go_wp2_with fail
    go_at_call 18
    refine (check18_b _ cap n zs w2 _ HN.out (by omega) rfl q2).mono ?_
    rintro e w3 ⟨rfl, hB3⟩
    have hz3 := hB3.size
    have HO3 := Lib.hid (own_below HO2.out hB3)
    have p1 := (q1.below hB3).more hz3
    have HB3 := HB2.trans (hB3.mono (by omega))
    clear q1 q2 HB2 hB3 HO2
    go_wp2_with fail
    go_at_call 19
    refine (refCheck19 _ _ n _ zs w3 HN.out (by omega) HZ.out p1).mono ?_
    rintro e w4 ⟨rfl, rfl⟩
    go_wp2_with fail
    go_at_call 20
    refine (left20 _ _ g cap n _ zs w3 HN.out (by omega) HO3.out p1).mono ?_
    rintro e w4 ⟨rfl, hB4⟩
    have hz4 := hB4.size
    have HB4 := HB3.trans (hB4.mono (by omega))
    clear p1 HB3 hB4 HO3
    go_wp2_with fail
    go_at_call 13
    refine (does13 w4).mono ?_
    rintro e w5 ⟨rfl, hB5⟩
    have HB5 := HB4.trans (hB5.mono (by omega))
    clear HB4 hB5
    go_wp2
    go_ret
    exact ⟨rfl, HB5⟩
end Go.Proofs.Ytgiffkpneloghaa
