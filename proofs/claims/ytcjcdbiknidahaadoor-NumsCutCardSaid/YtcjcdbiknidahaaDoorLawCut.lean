/- The law NumsCut, walked: for every number, text and list it is true, and nothing that was there has turned. -/
import Derived.Test.YtcjcdbiknidahaaDoorLawList
namespace Go.Proofs.YtcjcdbiknidahaaDoor
open Go.RowKit Go.Lib

theorem cut_nil {x r : List UInt8} {i : Nat} (hi : i < x.length) (h : r ++ x.drop i = []) : False := by
  have := congrArg List.length h
  rw [List.length_append, List.length_drop] at this
  simp at this
  omega
theorem cutN {n i : Nat} (hi : i < (putN n).length) : getN ((putN n).take i) = none := by
  rcases h : getN ((putN n).take i) with _ | m
  · rfl
  · exfalso
    obtain ⟨_, r, hr⟩ := getN_iff.1 h
    have : putN m ++ (r ++ (putN n).drop i) = putN n ++ [] := by rw [← List.append_assoc, hr, List.take_append_drop, List.append_nil]
    exact cut_nil hi (putN_inj this).2
theorem cutT {t : List UInt8} {i : Nat} (hi : i < (putT t).length) : getT ((putT t).take i) = none := by
  rcases h : getT ((putT t).take i) with _ | m
  · rfl
  · exfalso
    obtain ⟨_, r, hr⟩ := getT_iff.1 h
    have : putT m ++ (r ++ (putT t).drop i) = putT t ++ [] := by rw [← List.append_assoc, hr, List.take_append_drop, List.append_nil]
    exact cut_nil hi (putT_inj this).2
theorem cutL {l : List (List UInt8)} {i : Nat} (hi : i < (putL l).length) : getL ((putL l).take i) = none := by
  rcases h : getL ((putL l).take i) with _ | m
  · rfl
  · exfalso
    obtain ⟨_, _, r, hr⟩ := getL_iff.1 h
    have : putL m ++ (r ++ (putL l).drop i) = putL l ++ [] := by rw [← List.append_assoc, hr, List.take_append_drop, List.append_nil]
    exact cut_nil hi (putL_inj this).2
theorem atL_zero (l : List UInt8) : atL l 0 = getL l := by unfold atL; rw [if_pos (by omega)]; rfl
theorem atT_zero (l : List UInt8) : atT l 0 = getT l := by unfold atT; rw [if_pos (by omega)]; rfl
theorem front_slice (x : List UInt8) (i : Nat) (hi : i ≤ x.length) (W : World) : (Instr.slice 9 (.string (B x)) none (some (.int .i64 i)) none).run Tryd.prog W = .ok (.string (B (x.take i))) W := by
  have h := run_slice_string_h (P := Tryd.prog) W 9 (B x) Tryd.underlying9 .i64 (i : Int) (by omega) (by rw [B_size]; omega)
  rw [h, Int.toNat_natCast, extract_B, list_B, List.drop_zero, Nat.sub_zero]
theorem putL_len (zs : List ByteArray) (hn : zs.length ≤ MX) (ht : tot zs ≤ 1000000) : (putL (bytesOf zs)).length ≤ 20 + 20 * zs.length + tot zs := by
  have := putK_len zs.length zs zs.length hn ht
  rw [putK_all, List.take_length] at this
  exact this

set_option maxHeartbeats 4000000 in
set_option maxRecDepth 100000 in
theorem law8 (a : Int) (s : ByteArray) (A : Option Addr) (c n : Nat) (zs : List ByteArray) (w : World) (ha : (Lit.int .i64 a).wf = true) (hs : s.size ≤ maxLen) (hn : n = zs.length) (_hc0 : A = none → c = 0) (hn63 : n ≤ maxLen)
    (hz : ∀ z ∈ zs, z.size ≤ maxLen) (h1 : SRd w w.heap.size A zs) (hV : Vars w.heap.size w) :
    Calls Tryd.prog 8 #[.int .i64 a, .string s, .slice A n c] w fun e w' => e = .returned (.bool true) ∧ Below w.heap.size w w' := by
  have hsM : s.size ≤ 9223372036854775807 := by unfold maxLen at hs; exact hs
  have hnM : n ≤ 9223372036854775807 := by unfold maxLen at hn63; exact hn63
  have ha1 : a ≤ 9223372036854775807 := by simp [Lit.wf, IntKind.min, IntKind.max, IntKind.signed, IntKind.bits] at ha; omega
  have C1 := Lib.hid (great A c w.heap.size n 100 1000 zs w hn hnM (by omega) (by omega) hz h1)
  have HN := Lib.hid hn
  have D := Lib.hid (does19 w hV)
  clear ha hs hn hz hn63 _hc0
  by_cases h0 : a < 0
  · clear C1
    go_enter Tryd.func8, Tryd.ntmps8
    go_wp2_with fail
    go_at_call 19
    refine D.out.mono ?_
    rintro e w1 ⟨rfl, hB1⟩
    go_wp2
    go_ret
    exact ⟨rfl, hB1⟩
  by_cases hbig : 1000 < s.size
  · clear C1
    go_enter Tryd.func8, Tryd.ntmps8
    go_wp2_with fail
    go_at_call 19
    refine D.out.mono ?_
    rintro e w1 ⟨rfl, hB1⟩
    go_wp2
    go_ret
    exact ⟨rfl, hB1⟩
  obtain ⟨m, rfl⟩ : ∃ m : Nat, a = m := ⟨a.toNat, by omega⟩
  have hm : m ≤ MX := by unfold MX; omega
  have P1 := Lib.hid (fun W hW => put12 m W hm hW)
  have G1 : Hid (∀ i W, i < (putN m).length → Vars W.heap.size W → Calls Tryd.prog 20 #[.string (B ((putN m).take i)), .int .i64 0] W fun e w' => e = .returned (.tuple #[.int .i64 0, .int .i64 0, .bool false]) ∧ Below W.heap.size W w') := Lib.hid (fun i W hi hW => by
    have := get20 (B ((putN m).take i)) 0 W (by rw [B_size]; have := List.length_take_le' i (putN m); have := putN_len20 hm; omega) hW
    rw [list_B, atN_zero, cutN hi] at this
    exact this)
  have hx1 := putN_len20 hm
  have F1 := Lib.hid (front_slice (putN m))
  have P2 := Lib.hid (fun W hW => putText14 s W (by omega) hW)
  have hx2 := putT_len s.data.toList (by rw [size_list]; unfold MX; omega)
  rw [size_list] at hx2
  have G2 : Hid (∀ i W, i < (putT s.data.toList).length → Vars W.heap.size W → Calls Tryd.prog 22 #[.string (B ((putT s.data.toList).take i)), .int .i64 0] W fun e w' => e = .returned (.tuple #[.string ⟨#[]⟩, .int .i64 0, .bool false]) ∧ Below W.heap.size W w') := Lib.hid (fun i W hi hW => by
    have := getText22 (B ((putT s.data.toList).take i)) 0 W (by rw [B_size]; have := List.length_take_le' i (putT s.data.toList); omega) hW
    rw [list_B, atT_zero, cutT hi] at this
    exact this)
  have F2 := Lib.hid (front_slice (putT s.data.toList))
  generalize putT s.data.toList = x2 at P2 hx2 G2 F2
  go_enter Tryd.func8, Tryd.ntmps8
  go_wp2_with fail
  go_at_call 10
  refine C1.out.mono ?_
  rintro e w' ⟨(rfl | ⟨rfl, g1, g2⟩), rfl⟩
  · go_wp2_with fail
    go_at_call 19
    refine D.out.mono ?_
    rintro e w1 ⟨rfl, hB1⟩
    go_wp2
    go_ret
    exact ⟨rfl, hB1⟩
  · have l1 : n ≤ 100 := by rw [HN.out]; exact g1
    have P3 := Lib.hid (fun W hR hW => putList16 A c n zs W HN.out (by omega) (by omega) hR hW)
    have hx3 := putL_len zs (by unfold MX; omega) (by omega)
    have G3 : Hid (∀ i W, i < (putL (bytesOf zs)).length → Vars W.heap.size W → Calls Tryd.prog 24 #[.string (B ((putL (bytesOf zs)).take i)), .int .i64 0] W fun e w' => e = .returned (.tuple #[.slice none 0 0, .int .i64 0, .bool false]) ∧ Below W.heap.size W w') := Lib.hid (fun i W hi hW => by
      have := getList24 (B ((putL (bytesOf zs)).take i)) 0 W (by rw [B_size]; have := List.length_take_le' i (putL (bytesOf zs)); omega) hW
      refine this.mono fun e w' h => ?_
      exact h.none (by rw [list_B, atL_zero, cutL hi]))
    have F3 := Lib.hid (front_slice (putL (bytesOf zs)))
    have hx3' : (putL (bytesOf zs)).length ≤ 5000 := by omega
    generalize putL (bytesOf zs) = x3 at P3 hx3' G3 F3
    generalize putN m = x1 at P1 hx1 G1 F1
    clear hx3 C1 D
    go_wp2_with fail
    go_at_call 12
    refine (P1.out w hV).mono ?_
    rintro e w1 ⟨rfl, HB1⟩
    have hz1 := HB1.size
    go_wp2_with fail
    go_at_call 14
    refine (P2.out w1 ((hV.below HB1).more hz1)).mono ?_
    rintro e w2 ⟨rfl, hB2⟩
    have HB2 := HB1.trans (hB2.mono hz1)
    have hz2 := HB2.size
    clear hB2 HB1
    go_wp2_with fail
    go_at_call 16
    refine (P3.out w2 ((h1.below HB2).more hz2) ((hV.below HB2).more hz2)).mono ?_
    rintro e w3 ⟨rfl, hB3⟩
    have HB3 := HB2.trans (hB3.mono hz2)
    have hz3 := HB3.size
    clear hB3 HB2 P1 P2 P3 h1
    go_wp2_with fail
    go_loopg [10] x1.length (fun g v wr => ∃ i : Nat, v = .int .i64 i ∧ i ≤ x1.length ∧ x1.length - i ≤ g ∧ Below w.heap.size w wr)
    case atStart => exact ⟨0, rfl, Nat.zero_le _, by omega, HB3⟩
    case round =>
      obtain ⟨i, rfl, hi, hg, hbw⟩ := hrel
      have hzr := hbw.size
      clear HB3
      by_cases hlt : i < x1.length
      · have hsl := F1.out i hi
        have K := Lib.hid (G1.out i wr hlt ((hV.below hbw).more hzr))
        generalize B (x1.take i) = y at hsl K
        go_wp2_with fail
        go_at_call 20
        refine K.out.mono ?_
        rintro e w4 ⟨rfl, hB4⟩
        have HB4 := hbw.trans (hB4.mono hzr)
        clear hB4 K
        go_wp2
        go_roundg (x1.length - (i + 1))
        case measure => omega
        case rel => exact ⟨i + 1, by go_num, by omega, by omega, HB4⟩
      · obtain rfl : i = x1.length := by omega
        clear F1 G1
        go_wp2_with fail
        go_loopg [14] x2.length (fun g v wr => ∃ i : Nat, v = .int .i64 i ∧ i ≤ x2.length ∧ x2.length - i ≤ g ∧ Below w.heap.size w wr)
        case atStart => exact ⟨0, rfl, Nat.zero_le _, by omega, hbw⟩
        case round =>
          obtain ⟨i, rfl, hi, hg, hbw⟩ := hrel
          have hzr := hbw.size
          by_cases hlt : i < x2.length
          · have hsl := F2.out i hi
            have K := Lib.hid (G2.out i _ hlt ((hV.below hbw).more hzr))
            generalize B (x2.take i) = y at hsl K
            go_wp2_with fail
            go_at_call 22
            refine K.out.mono ?_
            rintro e w4 ⟨rfl, hB4⟩
            have HB4 := hbw.trans (hB4.mono hzr)
            clear hB4 K
            go_wp2
            go_roundg (x2.length - (i + 1))
            case measure => omega
            case rel => exact ⟨i + 1, by go_num, by omega, by omega, HB4⟩
          · obtain rfl : i = x2.length := by omega
            clear F2 G2
            go_wp2_with fail
            go_loopg [18] x3.length (fun g v wr => ∃ i : Nat, v = .int .i64 i ∧ i ≤ x3.length ∧ x3.length - i ≤ g ∧ Below w.heap.size w wr)
            case atStart => exact ⟨0, rfl, Nat.zero_le _, by omega, hbw⟩
            case round =>
              obtain ⟨i, rfl, hi, hg, hbw⟩ := hrel
              have hzr := hbw.size
              by_cases hlt : i < x3.length
              · have hsl := F3.out i hi
                have K := Lib.hid (G3.out i _ hlt ((hV.below hbw).more hzr))
                generalize B (x3.take i) = y at hsl K
                go_wp2_with fail
                go_at_call 24
                refine K.out.mono ?_
                rintro e w4 ⟨rfl, hB4⟩
                have HB4 := hbw.trans (hB4.mono hzr)
                clear hB4 K
                go_wp2
                go_roundg (x3.length - (i + 1))
                case measure => omega
                case rel => exact ⟨i + 1, by go_num, by omega, by omega, HB4⟩
              · obtain rfl : i = x3.length := by omega
                clear F3 G3
                go_wp2_with fail
                go_at_call 19
                refine (does19 _ ((hV.below hbw).more hzr)).mono ?_
                rintro e w5 ⟨rfl, hB5⟩
                have HB5 := hbw.trans (hB5.mono hzr)
                go_wp2
                go_ret
                exact ⟨rfl, HB5⟩
end Go.Proofs.YtcjcdbiknidahaaDoor
