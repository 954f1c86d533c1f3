/- SumsWeigh and SumsNumbers, walked. -/
import Derived.Test.YtdcdiniplomnkaaDoorHex
namespace Go.Proofs.YtdcdiniplomnkaaDoor
open Go.RowKit Go.Lib

set_option maxHeartbeats 1000000 in
theorem law3 (s : ByteArray) (a : Nat) (w : World) (hs : s.size ≤ maxLen) (ha : a < 4294967296) (hV : Vars w.heap.size w) :
    Calls Tryd.prog 3 #[.string s, .int .u32 a] w fun e w' => e = .returned (.bool true) ∧ Below w.heap.size w w' := by
  have hs' : s.size ≤ 9223372036854775807 := by unfold maxLen at hs; omega
  by_cases h : s.size ≤ 40000
  · go_enter Tryd.func3, Tryd.ntmps3
    go_wp2_with fail
    go_at_call 11
    refine (sum11 s w hs).mono ?_
    rintro e w' ⟨rfl, rfl⟩
    go_wp2_with fail
    go_at_call 12
    refine (refSum12 s _ h).mono ?_
    rintro e w' ⟨rfl, rfl⟩
    go_wp2_with fail
    go_at_call 13
    refine (more13 a s _ ha hs).mono ?_
    rintro e w' ⟨rfl, rfl⟩
    go_wp2_with fail
    go_at_call 14
    refine (refMore14 a s _ ha h).mono ?_
    rintro e w' ⟨rfl, rfl⟩
    go_wp2_with fail
    go_at_call 10
    refine (told10 _ hV).mono ?_
    rintro e w' ⟨rfl, hB⟩
    go_wp2
    go_ret
    exact ⟨rfl, hB⟩
  · go_enter Tryd.func3, Tryd.ntmps3
    go_wp2_with fail
    go_at_call 10
    refine (told10 _ hV).mono ?_
    rintro e w' ⟨rfl, hB⟩
    go_wp2
    go_ret
    exact ⟨rfl, hB⟩

set_option maxHeartbeats 1000000 in
theorem law4 (x y : Nat) (n : Int) (w : World) (hx : x < 4294967296) (hy : y < 4294967296) (h0 : -9223372036854775808 ≤ n) (h1 : n ≤ 9223372036854775807) (hV : Vars w.heap.size w) :
    Calls Tryd.prog 4 #[.int .u32 x, .int .u32 y, .int .i64 n] w fun e w' => e = .returned (.bool true) ∧ Below w.heap.size w w' := by
  go_enter Tryd.func4, Tryd.ntmps4
  go_wp2_with fail
  go_at_call 15
  refine (join15 x y n w hx hy h0 h1).mono ?_
  rintro e w' ⟨rfl, rfl⟩
  go_wp2_with fail
  go_at_call 16
  refine (refJoin16 x y n _ hx hy h0 h1).mono ?_
  rintro e w' ⟨rfl, rfl⟩
  go_wp2_with fail
  go_at_call 17
  refine (hex17 x _ hx hV).mono ?_
  rintro e w1 ⟨rfl, hB1⟩
  have V1 := hV.next hB1
  have hz1 := hB1.size
  clear hV
  go_wp2_with fail
  go_at_call 18
  refine (refHex18 x _ hx).mono ?_
  rintro e w' ⟨rfl, rfl⟩
  go_wp2_with fail
  go_at_call 17
  refine (hex17 y _ hy V1).mono ?_
  rintro e w2 ⟨rfl, hB2⟩
  have V2 := V1.next hB2
  have HB2 := hB1.trans (hB2.mono hz1)
  have hz2 := HB2.size
  clear V1 hB1 hB2
  go_wp2_with fail
  go_at_call 18
  refine (refHex18 y _ hy).mono ?_
  rintro e w' ⟨rfl, rfl⟩
  go_wp2_with fail
  go_at_call 10
  refine (told10 _ V2).mono ?_
  rintro e w3 ⟨rfl, hB3⟩
  go_wp2
  go_ret
  exact ⟨rfl, HB2.trans (hB3.mono hz2)⟩
end Go.Proofs.YtdcdiniplomnkaaDoor
