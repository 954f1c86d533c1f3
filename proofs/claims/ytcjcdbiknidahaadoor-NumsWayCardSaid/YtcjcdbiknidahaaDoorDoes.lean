/- The law's examples come out: does() is true. -/
import Derived.Test.YtcjcdbiknidahaaDoorGetList
import Derived.Test.YtcjcdbiknidahaaDoorSame
namespace Go.Proofs.YtcjcdbiknidahaaDoor
open Go.RowKit Go.Lib

theorem dec300 : decDigits 300 = [51, 48, 48] := by rw [dec_big (by decide), decDigits_two (by decide) (by decide)]; rfl
theorem put300 : putN 300 = [51, 48, 48, 58] := by unfold putN; rw [dec300]; rfl
theorem putN_small {n : Nat} (h : n < 10) : putN n = [UInt8.ofNat (48 + n), 58] := by unfold putN; rw [dec_small h]; rfl
theorem atN_zero (l : List UInt8) : atN l 0 = getN l := by have := atN_at (l := l) (a := 0) (Nat.zero_le _); simpa using this
theorem putTx : putT [97] = [49, 58, 97] := by unfold putT; rw [List.length_singleton, putN_small (by decide)]; rfl
theorem putTy : putT [] = [48, 58] := by unfold putT; rw [List.length_nil, putN_small (by decide)]; rfl
theorem putTz : putT [120, 121] = [50, 58, 120, 121] := by unfold putT; rw [show [(120 : UInt8), 121].length = 2 from rfl, putN_small (by decide)]; rfl
theorem putLx : putL [[97], []] = [50, 58, 49, 58, 97, 48, 58] := by
  unfold putL
  rw [show [[(97 : UInt8)], []].length = 2 from rfl, putN_small (by decide), List.flatMap_cons, List.flatMap_cons, List.flatMap_nil, putTx, putTy]; rfl

theorem getX (w : World) (hV : Vars w.heap.size w) : Calls Tryd.prog 20 #[.string ⟨#[51, 48, 48, 58, 120]⟩, .int .i64 0] w fun e W' => e = .returned (.tuple #[.int .i64 300, .int .i64 4, .bool true]) ∧ Below w.heap.size w W' := by
  refine (get20 ⟨#[51, 48, 48, 58, 120]⟩ 0 w (by decide) hV).mono ?_
  rintro e w' ⟨rfl, hB⟩
  refine ⟨?_, hB⟩
  have e1 : atN [51, 48, 48, 58, 120] 0 = some 300 := by
    rw [atN_zero]
    have := getN_put (n := 300) (by decide) [120]
    rw [put300] at this
    exact this
  show Ending.returned (retN 0 (atN [51, 48, 48, 58, 120] 0)) = _
  rw [e1, retN, put300]
  rfl
theorem getY (w : World) (hV : Vars w.heap.size w) : Calls Tryd.prog 20 #[.string ⟨#[51, 48, 48, 58, 120]⟩, .int .i64 1] w fun e W' => e = .returned (.tuple #[.int .i64 0, .int .i64 0, .bool false]) ∧ Below w.heap.size w W' := by
  refine (get20 ⟨#[51, 48, 48, 58, 120]⟩ 1 w (by decide) hV).mono ?_
  rintro e w' ⟨rfl, hB⟩
  refine ⟨?_, hB⟩
  have e1 : atN [51, 48, 48, 58, 120] 1 = none := by
    have h := atN_at (l := [51, 48, 48, 58, 120]) (a := 1) (by decide)
    have h2 : getN [48, 48, 58, 120] = none := by
      unfold getN
      have e0 : val 0 ([48, 48, 58, 120].takeWhile isDig) = 0 := by decide
      rw [e0, putN_small (by decide)]
      decide
    exact h.trans h2
  show Ending.returned (retN 1 (atN [51, 48, 48, 58, 120] 1)) = _
  rw [e1]
  rfl
theorem textX (w : World) (hV : Vars w.heap.size w) : Calls Tryd.prog 22 #[.string ⟨#[50, 58, 120, 121, 122]⟩, .int .i64 0] w fun e W' => e = .returned (.tuple #[.string ⟨#[120, 121]⟩, .int .i64 4, .bool true]) ∧ Below w.heap.size w W' := by
  refine (getText22 ⟨#[50, 58, 120, 121, 122]⟩ 0 w (by decide) hV).mono ?_
  rintro e w' ⟨rfl, hB⟩
  refine ⟨?_, hB⟩
  have e1 : atT [50, 58, 120, 121, 122] 0 = some [120, 121] := by
    have h := atT_nat (l := [50, 58, 120, 121, 122]) (q := 0) (Nat.zero_le _)
    have := getT_put (t := [120, 121]) (by decide) [122]
    rw [putTz] at this
    exact h.trans this
  show Ending.returned (retT 0 (atT [50, 58, 120, 121, 122] 0)) = _
  rw [e1, retT, putTz]
  rfl
theorem listX (w : World) (hV : Vars w.heap.size w) : Calls Tryd.prog 24 #[.string ⟨#[50, 58, 49, 58, 97, 48, 58]⟩, .int .i64 0] w fun e W' => ∃ A c, e = .returned (.tuple #[.slice A 2 c, .int .i64 7, .bool true]) ∧ SRd W' W'.heap.size A [B [97], B []] ∧ Below w.heap.size w W' := by
  refine (getList24 ⟨#[50, 58, 49, 58, 97, 48, 58]⟩ 0 w (by decide) hV).mono ?_
  rintro e w' ⟨hB, h⟩
  have e1 : atL [50, 58, 49, 58, 97, 48, 58] 0 = some [[97], []] := by
    unfold atL
    rw [if_pos (by decide)]
    have := getL_put (ts := [[97], []]) (by decide) (by decide) []
    rw [putLx] at this
    exact this
  have e2 : (⟨#[50, 58, 49, 58, 97, 48, 58]⟩ : ByteArray).data.toList = [50, 58, 49, 58, 97, 48, 58] := rfl
  rw [e2, e1] at h
  obtain ⟨A, c, rfl, _, hs⟩ := h
  exact ⟨A, c, by rw [putLx]; rfl, hs, hB⟩
theorem putX (w : World) (hV : Vars w.heap.size w) : Calls Tryd.prog 12 #[.int .i64 300] w fun e W' => e = .returned (.string ⟨#[51, 48, 48, 58]⟩) ∧ Below w.heap.size w W' := by
  refine (put12 300 w (by decide) hV).mono ?_
  rintro e w' ⟨rfl, hB⟩
  exact ⟨by rw [put300], hB⟩
theorem putListX (A : Option Addr) (c : Nat) (w : World) (h1 : SRd w w.heap.size A [B [97], B []]) (hV : Vars w.heap.size w) :
    Calls Tryd.prog 16 #[.slice A 2 c] w fun e w' => e = .returned (.string ⟨#[50, 58, 49, 58, 97, 48, 58]⟩) ∧ Below w.heap.size w w' := by
  refine (putList16 A c 2 [B [97], B []] w rfl (by decide) (by decide) h1 hV).mono ?_
  rintro e w' ⟨rfl, hB⟩
  refine ⟨?_, hB⟩
  have : bytesOf [B [97], B []] = [[97], []] := rfl
  rw [this, putLx]

theorem SRd.new (w : World) (zs : List ByteArray) (n₀ : Nat) (h : w.heap.size < n₀) : SRd (w.alloc (.cells (zs.map Value.string).toArray 9)) n₀ (some ⟨w.heap.size, 0, none⟩) zs := by
  intro hn
  refine ⟨_, _, rfl, h, fun j hj => ?_⟩
  have hb := heap_alloc_new w (.cells (zs.map Value.string).toArray 9)
  rw [cell_of_row _ _ _ _ _ _ hb]
  simp [List.getD, List.getElem?_eq_getElem hj]
/-- A list against one that is written out. -/
theorem same26_lit (A : Option Addr) (c n m : Nat) (xs ys : List ByteArray) (w : World) (o : Obj) (b : Bool) (ho : o = .cells (ys.map Value.string).toArray 9) (hn : n = xs.length) (hm : m = ys.length) (hn1 : n ≤ 100000) (hm1 : m ≤ 100000) (hb : decide (xs = ys) = b) (h : SRd w w.heap.size A xs) :
    Calls Tryd.prog 26 #[.slice A n c, .slice (some ⟨w.heap.size, 0, none⟩) m m] (w.alloc o) fun e w' => e = .returned (.bool b) ∧ Below w.heap.size w w' := by
  subst ho hb
  refine (same12 A _ c m (w.heap.size + 1) n m xs ys _ hn hm (by omega) (by omega) ((h.alloc (Nat.le_refl _) _).more (by omega)) (SRd.new w ys _ (by omega))).mono ?_
  rintro e w' ⟨rfl, q, rfl⟩
  exact ⟨rfl, below_drewN ((Below.refl _ w).alloc (Nat.le_refl _) _) _⟩
theorem same26_b (A1 A2 : Option Addr) (c d n m : Nat) (xs ys : List ByteArray) (w : World) (b : Bool) (hn : n = xs.length) (hm : m = ys.length) (hn1 : n ≤ 100000) (hm1 : m ≤ 100000) (hb : decide (xs = ys) = b) (h1 : SRd w w.heap.size A1 xs) (h2 : SRd w w.heap.size A2 ys) :
    Calls Tryd.prog 26 #[.slice A1 n c, .slice A2 m d] w fun e w' => e = .returned (.bool b) ∧ Below w.heap.size w w' := by
  subst hb
  refine (same12 A1 A2 c d w.heap.size n m xs ys _ hn hm (by omega) (by omega) h1 h2).mono ?_
  rintro e w' ⟨rfl, q, rfl⟩
  exact ⟨rfl, below_drewN (Below.refl _ w) _⟩

set_option maxHeartbeats 4000000 in
set_option maxRecDepth 100000 in
theorem does19 (w : World) (hV : Vars w.heap.size w) : Calls Tryd.prog 19 #[] w fun e w' => e = .returned (.bool true) ∧ Below w.heap.size w w' := by
  go_enter Tryd.func19, Tryd.ntmps19
  go_wp2_with fail
  go_at_call 20
  refine (getX w hV).mono ?_
  rintro e w1 ⟨rfl, HB1⟩
  have hz1 := HB1.size
  have V1 := hV.next HB1
  clear hV
  go_wp2_with fail
  go_at_call 20
  refine (getY w1 V1).mono ?_
  rintro e w2 ⟨rfl, hB2⟩
  have V2 := V1.next hB2
  have HB2 := HB1.trans (hB2.mono hz1)
  have hz2 := HB2.size
  clear V1 hB2 HB1
  go_wp2_with fail
  go_at_call 24
  refine (listX w2 V2).mono ?_
  rintro e w3 ⟨A, c, rfl, k3, hB3⟩
  have V3 := V2.next hB3
  have HB3 := HB2.trans (hB3.mono hz2)
  have hz3 := HB3.size
  clear V2 hB3 HB2
  go_wp2_with fail
  go_at_call 22
  refine (textX w3 V3).mono ?_
  rintro e w4 ⟨rfl, hB4⟩
  have V4 := V3.next hB4
  have k4 := (k3.below hB4).more hB4.size
  have HB4 := HB3.trans (hB4.mono hz3)
  have hz4 := HB4.size
  clear V3 hB4 HB3 k3
  go_wp2_with fail
  go_at_call 12
  refine (putX w4 V4).mono ?_
  rintro e w5 ⟨rfl, hB5⟩
  have V5 := V4.next hB5
  have k5 := (k4.below hB5).more hB5.size
  have HB5 := HB4.trans (hB5.mono hz4)
  have hz5 := HB5.size
  clear V4 hB5 HB4 k4
  go_wp2_with fail
  go_at_call 12
  refine (putNo12 (-1) w5 (by omega)).mono ?_
  rintro e w6 ⟨rfl, rfl⟩
  go_wp2_with fail
  go_at_call 26
  refine (same26_lit A c 2 2 [B [97], B []] [B [97], B []] w5 _ true rfl rfl rfl (by omega) (by omega) (by simp) k5).mono ?_
  rintro e w6 ⟨rfl, hB6⟩
  have V6 := V5.next hB6
  have k6 := (k5.below hB6).more hB6.size
  have HB6 := HB5.trans (hB6.mono hz5)
  have hz6 := HB6.size
  clear V5 hB6 HB5 k5
  go_wp2_with fail
  go_at_call 16
  refine (putListX A c w6 k6 V6).mono ?_
  rintro e w7 ⟨rfl, hB7⟩
  have HB7 := HB6.trans (hB7.mono hz6)
  clear V6 hB7 HB6 k6
  go_wp2
  go_ret
  exact ⟨rfl, HB7⟩
end Go.Proofs.YtcjcdbiknidahaaDoor
