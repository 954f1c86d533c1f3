/- FramesGrow, walked. -/
import Derived.Test.YtljpclfeogiohaaGreatDoorFrmSlices
namespace Go.Proofs.YtljpclfeogiohaaGreatDoor.frm
open Go.RowKit Go.Lib

set_option maxHeartbeats 4000000 in
set_option maxRecDepth 100000 in
theorem law7 (s t : ByteArray) (w : World) (hs : s.size ≤ maxLen) (ht : t.size ≤ maxLen) (hV : Vars w.heap.size w) :
    Calls Tryz.prog 7 #[.string s, .string t] w fun e w' => e = .returned (.bool true) ∧ Below w.heap.size w w' := by
  unfold maxLen at hs ht
  have DD := stands_at hV
  by_cases h1 : 8000 < s.size
  · clear hV
    go_enter Tryz.func7, Tryz.ntmps7
    go_wp2_with fail
    go_at_call 12
    refine (DD.out w (Below.refl _ _)).mono ?_
    rintro e w1 ⟨rfl, HB⟩
    go_wp2
    go_ret
    exact ⟨rfl, HB⟩
  by_cases h2 : 8000 < t.size
  · clear hV
    go_enter Tryz.func7, Tryz.ntmps7
    go_wp2_with fail
    go_at_call 12
    refine (DD.out w (Below.refl _ _)).mono ?_
    rintro e w1 ⟨rfl, HB⟩
    go_wp2
    go_ret
    exact ⟨rfl, HB⟩
  have C1 := Lib.hid (whole17 s w (by omega) hV)
  have C2 := Lib.hid (fun W (hW : Below w.heap.size w W) => whole17 t W (by omega) (hV.next hW))
  have C3 := Lib.hid (fun W (hW : Below w.heap.size w W) => whole17 (s ++ t) W (by rw [ByteArray.size_append]; omega) (hV.next hW))
  have hST : (s ++ t).data.toList = s.data.toList ++ t.data.toList := by rw [ByteArray.data_append, Array.toList_append]
  rw [hST] at C3
  clear hV hST
  go_enter Tryz.func7, Tryz.ntmps7
  go_wp2_with fail
  go_at_call 17
  refine C1.out.mono ?_
  rintro e w1 ⟨HB1, ps, A1, n1, c1, i, hw1, hn1, hk1, hc1, hm1, rfl, hr1⟩
  have P1 := Lib.hid (And.intro hw1 (And.intro hn1 (And.intro hk1 (And.intro (Nat.le_trans hc1 hm1) hr1))))
  clear hw1 hn1 hk1 hc1 hm1 hr1 C1
  go_wp2_with fail
  go_at_call 17
  refine (C2.out w1 HB1).mono ?_
  rintro e w2 ⟨hB2, qs, A2, n2, c2, k, hw2, hn2, hk2, hc2, hm2, rfl, hr2⟩
  have HB2 := HB1.trans (hB2.mono HB1.size)
  have P2 := Lib.hid (And.intro hw2 (And.intro hn2 (And.intro hk2 (And.intro (Nat.le_trans hc2 hm2) hr2))))
  have B2 := Lib.hid hB2
  clear hw2 hn2 hk2 hc2 hm2 hr2 C2 hB2
  go_wp2_with fail
  go_at_call 17
  refine (C3.out w2 HB2).mono ?_
  rintro e w3 ⟨hB3, rs, A3, n3, c3, n, hw3, hn3, hk3, hc3, hm3, rfl, hr3⟩
  have HB3 := HB2.trans (hB3.mono HB2.size)
  obtain ⟨hw1, hn1, hk1, hm1, hr1⟩ := P1.out
  obtain ⟨hw2, hn2, hk2, hm2, hr2⟩ := P2.out
  obtain ⟨d, rfl, hd⟩ := hw1.grow hw3
  rw [frs_append, List.length_append] at hk3
  rw [List.length_append] at hn3
  rw [List.map_append] at hr3
  obtain ⟨m, hm⟩ : ∃ m, m = d.length := ⟨_, rfl⟩
  obtain ⟨j, hj⟩ : ∃ j, j = (frs d).length := ⟨_, rfl⟩
  have e3 : n3 = n1 + m := by omega
  have en : n = i + j := by omega
  subst e3 en
  have HE : Hid (i = s.size → d = qs) := Lib.hid (fun h => hd qs hw2 (by rw [size_list s]; omega))
  have HM : Hid (m = d.length ∧ j = (frs d).length ∧ n2 = qs.length ∧ k = (frs qs).length) := Lib.hid ⟨hm, hj, hn2, hk2⟩
  have R1 := (hr1.below B2.out).more B2.out.size
  have R2 := hr2
  have S1 := Lib.hid (fun W (hW : Below w3.heap.size w3 W) => same_yes A3 A1 c3 c1 n1 (ps.map B) W (by rw [List.length_map]; exact hn1) (by unfold maxLen at hm1; omega)
    (((SRd.head hr3).below hW).more hW.size) ((((R1.below hB3).more hB3.size).below hW).more hW.size))
  have S2 : Hid (d = qs → ∀ W, Below w3.heap.size w3 W → Calls Tryz.prog 19 #[.slice (tailA A3 c3 n1) m (c3 - n1), .slice A2 m c2] W fun e w' => e = .returned (.bool true) ∧ Below W.heap.size W w') := Lib.hid (fun h W hW => by
    subst h
    exact same_yes (tailA A3 c3 n1) A2 (c3 - n1) c2 m (d.map B) W (by rw [List.length_map]; exact hm) (by unfold maxLen at hm3; omega)
      (((SRd.tail hr3 (by rw [List.length_map]; exact hn1) (by rw [List.length_append, List.length_map, List.length_map]; omega)).below hW).more hW.size)
      ((((R2.below hB3).more hB3.size).below hW).more hW.size))
  have SL1 := head_slice A3 (n1 + m) c3 n1 (by omega)
  have SL2 := tail_slice A3 (n1 + m) c3 n1 m rfl
  have b1 : n1 + m ≤ c3 := hc3
  have b2 : i + j ≤ 9223372036854775807 := by
    have := hw3.length_le
    rw [frs_append, List.length_append, List.length_append, size_list s, size_list t] at this
    omega
  have b3 : n1 + m ≤ 9223372036854775807 := by unfold maxLen at hm3; omega
  have b4 : k ≤ 9223372036854775807 := by
    have := hw2.length_le
    rw [size_list t] at this
    omega
  clear hw1 hn1 hk1 hm1 hr1 hw2 hn2 hk2 hm2 hr2 hw3 hn3 hk3 hc3 hm3 hr3 hd hm hj R1 R2 P1 P2 B2 C3
  by_cases hi : i = s.size
  · subst hi
    have hdq := HE.out rfl
    subst hdq
    obtain rfl : n2 = m := by have := HM.out; omega
    obtain rfl : k = j := by have := HM.out; omega
    have S3 := Lib.hid (S2.out rfl)
    clear HE HM S2
    go_wp2_with fail
    go_at_call 19
    refine (S1.out w3 (Below.refl _ _)).mono ?_
    rintro e w4 ⟨rfl, hB4⟩
    go_wp2_with fail
    go_at_call 19
    refine (S3.out w4 hB4).mono ?_
    rintro e w5 ⟨rfl, hB5⟩
    have HB5 := HB3.trans ((hB4.trans (hB5.mono hB4.size)).mono HB3.size)
    go_wp2_with fail
    go_at_call 12
    refine (DD.out w5 HB5).mono ?_
    rintro e w6 ⟨rfl, HB6⟩
    go_wp2
    go_ret
    exact ⟨rfl, HB6⟩
  · have hi2 : ¬ (i : Int) = (s.size : Int) := by omega
    clear HE HM S2 hi
    go_wp2_with fail
    go_at_call 19
    refine (S1.out w3 (Below.refl _ _)).mono ?_
    rintro e w4 ⟨rfl, hB4⟩
    have HB4 := HB3.trans (hB4.mono HB3.size)
    go_wp2_with fail
    go_at_call 12
    refine (DD.out w4 HB4).mono ?_
    rintro e w6 ⟨rfl, HB6⟩
    go_wp2
    go_ret
    exact ⟨rfl, HB6⟩
end Go.Proofs.YtljpclfeogiohaaGreatDoor.frm
