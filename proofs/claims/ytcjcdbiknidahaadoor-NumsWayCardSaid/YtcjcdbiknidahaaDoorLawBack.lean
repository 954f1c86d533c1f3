/- The law NumsBack, walked: for every number, list and two texts it is true, and nothing that was there has turned. -/
import Derived.Test.YtcjcdbiknidahaaDoorLawApart
namespace Go.Proofs.YtcjcdbiknidahaaDoor
open Go.RowKit Go.Lib

theorem around_list (a b : ByteArray) (p : List UInt8) : (a ++ B p ++ b).data.toList = a.data.toList ++ (p ++ b.data.toList) := by simp
theorem bytesOf_B (zs : List ByteArray) : (bytesOf zs).map B = zs := by
  unfold bytesOf
  rw [List.map_map]
  conv => rhs; rw [← List.map_id zs]
  exact List.map_congr_left (fun z _ => B_list z)
theorem drop_front (a p : List UInt8) : (a ++ p).drop a.length = p := List.drop_left

set_option maxHeartbeats 4000000 in
set_option maxRecDepth 100000 in
theorem law6 (a : Int) (A0 : Option Addr) (c0 n0 : Nat) (z0 : List ByteArray) (s t : ByteArray) (w : World) (ha : (Lit.int .i64 a).wf = true)
    (hn0 : n0 = z0.length) (_hc0 : A0 = none → c0 = 0) (hm0 : n0 ≤ maxLen) (hz0 : ∀ z ∈ z0, z.size ≤ maxLen) (h0 : SRd w w.heap.size A0 z0)
    (hs : s.size ≤ maxLen) (ht : t.size ≤ maxLen) (hV : Vars w.heap.size w) :
    Calls Tryd.prog 6 #[.int .i64 a, .slice A0 n0 c0, .agg #[.string s, .string t]] w fun e w' => e = .returned (.bool true) ∧ Below w.heap.size w w' := by
  have hM0 : n0 ≤ 9223372036854775807 := by unfold maxLen at hm0; exact hm0
  have ha1 : a ≤ 9223372036854775807 := by simp [Lit.wf, IntKind.min, IntKind.max, IntKind.signed, IntKind.bits] at ha; omega
  have HG0 := Lib.hid (fun W hW => great A0 c0 w.heap.size n0 500 10000 z0 W hn0 hM0 (by omega) (by omega) hz0 hW)
  have HG2 := Lib.hid (fun p W hW => great (some ⟨p, 0, none⟩) 2 (p + 1) 2 2 1000 [s, t] W rfl (by omega) (by omega) (by omega) (by intro z hz; simp only [List.mem_cons, List.not_mem_nil, or_false] at hz; rcases hz with rfl | rfl <;> assumption) hW)
  have N0 := Lib.hid hn0
  clear hn0 _hc0 hm0 hz0 hs ht ha
  obtain ⟨wb, hwb⟩ : ∃ wb, wb = w.alloc (.cells #[.string s, .string t] 38) := ⟨_, rfl⟩
  have hsz : wb.heap.size = w.heap.size + 1 := by rw [hwb, World.size_alloc]
  have hB0 : Below w.heap.size w wb := by rw [hwb]; exact (Below.refl _ w).alloc (Nat.le_refl _) _
  have e0 : wb.cell? ⟨w.heap.size, 0, none⟩ = some (.string s) := by
    rw [hwb]; have hb := heap_alloc_new w (.cells #[.string s, .string t] 38); rw [cell_of_row _ _ _ _ _ _ hb]; rfl
  have e1 : wb.cell? ⟨w.heap.size, 1, none⟩ = some (.string t) := by
    rw [hwb]; have hb := heap_alloc_new w (.cells #[.string s, .string t] 38); rw [cell_of_row _ _ _ _ _ _ hb]; rfl
  have k2 : SRd wb (w.heap.size + 1) (some ⟨w.heap.size, 0, none⟩) [s, t] := by
    intro _
    refine ⟨_, _, rfl, by omega, fun j hj => ?_⟩
    match j, hj with
    | 0, _ => exact e0
    | 1, _ => exact e1
  have k0 := h0.below hB0
  have HWB := Lib.hid hwb
  have HSZ := Lib.hid hsz
  have E0 := Lib.hid e0
  have E1 := Lib.hid e1
  have hzb : w.heap.size ≤ wb.heap.size := hB0.size
  have DD : Hid (∀ W, Below w.heap.size w W → Calls Tryd.prog 19 #[] W fun e w' => e = .returned (.bool true) ∧ Below W.heap.size W w') := Lib.hid (fun W hW => does19 W ((hV.below hW).more hW.size))
  clear hsz e0 e1 hwb
  go_enter Tryd.func6, Tryd.ntmps6
  go_wp2_with fail
  rw [← HWB.out]
  go_at_call 10
  refine (HG0.out wb k0).mono ?_
  rintro e w' ⟨(rfl | ⟨rfl, g1, g2⟩), rfl⟩
  · go_wp2_with fail
    go_at_call 19
    refine (DD.out wb hB0).mono ?_
    rintro e w1 ⟨rfl, hB1⟩
    have HB1 := hB0.trans (hB1.mono hzb)
    go_wp2
    go_ret
    exact ⟨rfl, HB1⟩
  · go_wp2_with fail
    go_at_call 10
    refine (HG2.out w.heap.size wb k2).mono ?_
    rintro e w' ⟨(rfl | ⟨rfl, g5, g6⟩), rfl⟩
    · go_wp2_with fail
      go_at_call 19
      refine (DD.out wb hB0).mono ?_
      rintro e w1 ⟨rfl, hB1⟩
      have HB1 := hB0.trans (hB1.mono hzb)
      go_wp2
      go_ret
      exact ⟨rfl, HB1⟩
    · have l0 : n0 ≤ 500 := by rw [N0.out]; exact g1
      have hts : s.size ≤ 1000 ∧ t.size ≤ 1000 := by simp [tot] at g6; omega
      obtain ⟨hs1, ht1⟩ := hts
      have T0 : Hid (tot z0 ≤ 10000) := Lib.hid g2
      have H0 := Lib.hid h0
      clear HG0 HG2 k0 k2 g1 g2 g5 g6 h0
      by_cases hneg : a < 0
      · go_wp2_with fail
        go_at_call 19
        refine (DD.out wb hB0).mono ?_
        rintro e w1 ⟨rfl, hB1⟩
        have HB1 := hB0.trans (hB1.mono hzb)
        go_wp2
        go_ret
        exact ⟨rfl, HB1⟩
      · obtain ⟨m, rfl⟩ : ∃ m : Nat, a = m := ⟨a.toNat, by omega⟩
        have hm : m ≤ MX := by unfold MX; omega
        have hVW : Hid (∀ W, Below w.heap.size w W → Vars W.heap.size W) := Lib.hid (fun W hW => (hV.below hW).more hW.size)
        have P1 := Lib.hid (fun W hW => put12 m W hm (hVW.out W hW))
        have P2 := Lib.hid (fun W hW => putText14 t W (by omega) (hVW.out W hW))
        have P3 : Hid (∀ W, Below w.heap.size w W → Calls Tryd.prog 16 #[.slice A0 n0 c0] W fun e w' => e = .returned (.string (B (putL (bytesOf z0)))) ∧ Below W.heap.size W w') := Lib.hid (fun W hW =>
          putList16 A0 c0 n0 z0 W N0.out (by omega) (by have := T0.out; omega) ((H0.out.below hW).more hW.size) (hVW.out W hW))
        have hx1 := putN_len20 hm
        have hx2 := putT_len t.data.toList (by rw [size_list]; unfold MX; omega)
        rw [size_list] at hx2
        have hx3 : (putL (bytesOf z0)).length ≤ 30000 := by
          have := putK_len z0.length z0 z0.length (by rw [← N0.out]; unfold MX; omega) (by have := T0.out; omega)
          rw [putK_all, List.take_length, ← N0.out] at this
          have := T0.out
          omega
        have G1 : Hid (∀ W, Below w.heap.size w W → Calls Tryd.prog 20 #[.string (s ++ B (putN m) ++ t), .int .i64 s.size] W fun e w' => e = .returned (.tuple #[.int .i64 m, .int .i64 ((s.size : Int) + (putN m).length), .bool true]) ∧ Below W.heap.size W w') := Lib.hid (fun W hW => by
          have h := get20 (s ++ B (putN m) ++ t) s.size W (by simp only [ByteArray.size_append, B_size]; omega) (hVW.out W hW)
          rw [around_list, atN_at (by rw [List.length_append, size_list]; omega)] at h
          rw [show s.size = s.data.toList.length from (size_list s).symm, drop_front, getN_put hm] at h
          rw [size_list] at h
          exact h)
        have G2 : Hid (∀ W, Below w.heap.size w W → Calls Tryd.prog 22 #[.string (s ++ B (putT t.data.toList) ++ t), .int .i64 s.size] W fun e w' => e = .returned (.tuple #[.string t, .int .i64 ((s.size : Int) + (putT t.data.toList).length), .bool true]) ∧ Below W.heap.size W w') := Lib.hid (fun W hW => by
          have h := getText22 (s ++ B (putT t.data.toList) ++ t) s.size W (by simp only [ByteArray.size_append, B_size]; omega) (hVW.out W hW)
          rw [around_list, atT_nat (by rw [List.length_append, size_list]; omega)] at h
          rw [show s.size = s.data.toList.length from (size_list s).symm, drop_front, getT_put (by rw [size_list]; unfold MX; omega)] at h
          simp only [retT] at h
          rw [size_list, B_list] at h
          exact h)
        have G3 : Hid (∀ W, Below w.heap.size w W → Calls Tryd.prog 24 #[.string (s ++ B (putL (bytesOf z0)) ++ t), .int .i64 s.size] W fun e w' => ∃ A c, e = .returned (.tuple #[.slice A n0 c, .int .i64 ((s.size : Int) + (putL (bytesOf z0)).length), .bool true]) ∧ SRd w' w'.heap.size A z0 ∧ Below W.heap.size W w') := Lib.hid (fun W hW => by
          have h := getList24 (s ++ B (putL (bytesOf z0)) ++ t) s.size W (by simp only [ByteArray.size_append, B_size]; omega) (hVW.out W hW)
          refine h.mono ?_
          rintro e w' ⟨hB, hh⟩
          have hal : atL (s ++ B (putL (bytesOf z0)) ++ t).data.toList s.size = some (bytesOf z0) := by
            unfold atL
            rw [around_list, if_pos (by rw [List.length_append, size_list]; omega), Int.toNat_natCast]
            rw [show s.size = s.data.toList.length from (size_list s).symm, drop_front]
            exact getL_put (by unfold bytesOf; rw [List.length_map, ← N0.out]; unfold MX; omega) (fun x hx => by
              obtain ⟨z, hz, rfl⟩ := List.mem_map.1 hx
              rw [size_list]
              have h1 : z.size ≤ tot z0 := by
                obtain ⟨i, hi, rfl⟩ := List.getElem_of_mem hz
                have := size_le_tot hi
                rwa [show z0.getD i ByteArray.empty = z0[i] by simp [List.getD, List.getElem?_eq_getElem hi]] at this
              have := T0.out; unfold MX; omega) _
          rw [hal] at hh
          obtain ⟨A, c, he, _, hr⟩ := hh
          rw [bytesOf_B] at hr
          have hnb : (bytesOf z0).length = n0 := by unfold bytesOf; rw [List.length_map, ← N0.out]
          rw [hnb] at he
          exact ⟨A, c, he, hr, hB⟩)
        generalize putN m = x1 at P1 G1 hx1
        generalize putT t.data.toList = x2 at P2 G2 hx2
        generalize putL (bytesOf z0) = x3 at P3 G3 hx3
        have E0' := E0.out
        have E1' := E1.out
        clear E0 E1 hV
        go_wp2_with fail
        go_region
        have HB1 : Below w.heap.size w wb.drew := below_drew hB0
        have hz1 := HB1.size
        go_wp2_with fail
        go_at_call 12
        refine (P1.out _ HB1).mono ?_
        rintro e w2 ⟨rfl, hB2⟩
        have HB2 := HB1.trans (hB2.mono hz1)
        have hz2 := HB2.size
        clear hB2
        go_wp2_with fail
        go_at_call 14
        refine (P2.out _ HB2).mono ?_
        rintro e w3 ⟨rfl, hB3⟩
        have HB3 := HB2.trans (hB3.mono hz2)
        have hz3 := HB3.size
        clear hB3
        go_wp2_with fail
        go_at_call 16
        refine (P3.out _ HB3).mono ?_
        rintro e w4 ⟨rfl, hB4⟩
        have HB4 := HB3.trans (hB4.mono hz3)
        have hz4 := HB4.size
        clear hB4
        go_wp2_with fail
        go_at_call 20
        refine (G1.out _ HB4).mono ?_
        rintro e w5 ⟨rfl, hB5⟩
        have HB5 := HB4.trans (hB5.mono hz4)
        have hz5 := HB5.size
        clear hB5
        go_wp2_with fail
        go_at_call 22
        refine (G2.out _ HB5).mono ?_
        rintro e w6 ⟨rfl, hB6⟩
        have HB6 := HB5.trans (hB6.mono hz5)
        have hz6 := HB6.size
        clear hB6
        go_wp2_with fail
        go_at_call 24
        refine (G3.out _ HB6).mono ?_
        rintro e w7 ⟨A, c, rfl, r7, hB7⟩
        have HB7 := HB6.trans (hB7.mono hz6)
        have hz7 := HB7.size
        clear hB7
        have SM := Lib.hid (same26_b A A0 c c0 n0 n0 z0 z0 w7 true N0.out N0.out (by omega) (by omega) (by simp) r7 ((H0.out.below HB7).more hz7))
        clear r7
        go_wp2_with fail
        go_at_call 26
        refine SM.out.mono ?_
        rintro e w8 ⟨rfl, hB8⟩
        have HB8 := HB7.trans (hB8.mono hz7)
        have hz8 := HB8.size
        clear hB8 SM
        go_wp2_with fail
        go_at_call 19
        refine (DD.out _ HB8).mono ?_
        rintro e w9 ⟨rfl, hB9⟩
        have HB9 := HB8.trans (hB9.mono hz8)
        clear hB9
        go_wp2
        go_ret
        exact ⟨rfl, HB9⟩
end Go.Proofs.YtcjcdbiknidahaaDoor
