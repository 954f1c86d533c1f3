/- FramesListed, walked. -/
import Derived.Test.YtljpclfeogiohaaGreatDoorFrmLawMade
namespace Go.Proofs.YtljpclfeogiohaaGreatDoor.frm
open Go.RowKit Go.Lib

set_option maxHeartbeats 2000000 in
set_option maxRecDepth 100000 in
theorem law4 (s : ByteArray) (w : World) (hs : s.size ≤ maxLen) (hV : Vars w.heap.size w) :
    Calls Tryz.prog 4 #[.string s] w fun e w' => e = .returned (.bool true) ∧ Below w.heap.size w w' := by
  unfold maxLen at hs
  have DD := stands_at hV
  by_cases h1 : 15000 < s.size
  · clear hV
    go_enter Tryz.func4, Tryz.ntmps4
    go_wp2_with fail
    go_at_call 12
    refine (DD.out w (Below.refl _ _)).mono ?_
    rintro e w1 ⟨rfl, HB⟩
    go_wp2
    go_ret
    exact ⟨rfl, HB⟩
  have C1 := Lib.hid (whole17 s w (by omega) hV)
  have C2 := Lib.hid (fun W => refWhole18 s W (by omega))
  clear hV
  go_enter Tryz.func4, Tryz.ntmps4
  go_wp2_with fail
  go_at_call 17
  refine C1.out.mono ?_
  rintro e w1 ⟨HB1, ps, A, n, c, k, hw1, hn1, hk1, hc1, hm1, rfl, hr1⟩
  have P1 := Lib.hid (And.intro hw1 (And.intro hn1 (And.intro hk1 (And.intro (Nat.le_trans hc1 hm1) hr1))))
  clear hw1 hn1 hk1 hc1 hm1 hr1
  go_wp2_with fail
  go_at_call 18
  refine (C2.out w1).mono ?_
  rintro e w2 ⟨hB2, ps2, A2, n2, c2, k2, hw2, hn2, hk2, hc2, hm2, rfl, hr2⟩
  obtain ⟨hw1, hn1, hk1, hm1, hr1⟩ := P1.out
  obtain rfl := hw1.uniq hw2
  obtain rfl : n = n2 := by omega
  obtain rfl : k = k2 := by omega
  have HB2 := HB1.trans (hB2.mono HB1.size)
  have S := Lib.hid (same_yes A A2 c c2 n (ps.map B) w2 (by rw [List.length_map]; exact hn1) (by unfold maxLen at hm1; omega) ((hr1.below hB2).more hB2.size) hr2)
  clear hw1 hw2 hn1 hn2 hk1 hk2 hr1 hr2 hc2 hm1 hm2 C1 C2 P1
  go_wp2_with fail
  go_at_call 19
  refine S.out.mono ?_
  rintro e w3 ⟨rfl, hB3⟩
  have HB3 := HB2.trans (hB3.mono HB2.size)
  go_wp2_with fail
  go_at_call 12
  refine (DD.out w3 HB3).mono ?_
  rintro e w4 ⟨rfl, HB4⟩
  go_wp2
  go_ret
  exact ⟨rfl, HB4⟩
end Go.Proofs.YtljpclfeogiohaaGreatDoor.frm
