/- SumsRound, walked. -/
import Derived.Test.YtdcdiniplomnkaaDoorHex
namespace Go.Proofs.YtdcdiniplomnkaaDoor
open Go.RowKit Go.Lib

set_option maxHeartbeats 1000000 in
theorem law8 (x y : Nat) (n : Int) (w : World) (hx : x < 4294967296) (hy : y < 4294967296) (h0 : -9223372036854775808 ≤ n) (h1 : n ≤ 9223372036854775807) (hV : Vars w.heap.size w) :
    Calls Tryd.prog 8 #[.int .u32 x, .int .u32 y, .int .i64 n] w fun e w' => e = .returned (.bool true) ∧ Below w.heap.size w w' := by
  by_cases hb : 4611686018427387904 < n
  · go_enter Tryd.func8, Tryd.ntmps8
    go_wp2_with fail
    go_at_call 10
    refine (told10 _ hV).mono ?_
    rintro e w' ⟨rfl, hB⟩
    go_wp2
    go_ret
    exact ⟨rfl, hB⟩
  by_cases hc : n < -4611686018427387904
  · go_enter Tryd.func8, Tryd.ntmps8
    go_wp2_with fail
    go_at_call 10
    refine (told10 _ hV).mono ?_
    rintro e w' ⟨rfl, hB⟩
    go_wp2
    go_ret
    exact ⟨rfl, hB⟩
  · have c1 := join15 x y n w hx hy h0 h1
    have c2 := join15 x y (n + 65535) w hx hy (by omega) (by omega)
    have c3 := join15 x y (n - 65535) w hx hy (by omega) (by omega)
    have c4 := join15 x y 0 w hx hy (by omega) (by omega)
    have c5 := join15 y x 0 w hy hx (by omega) (by omega)
    have c6 := join15 (joinI x y n) 0 0 w (joinI_lt _ _ _) (by omega) (by omega) (by omega)
    rw [joinI_more] at c2
    rw [joinI_less] at c3
    rw [← joinI_comm] at c5
    rw [joinI_own] at c6
    have b1 : joinI x y n % 65536 < 65535 := num_low _ _
    have b2 : joinI x y n / 65536 < 65535 := num_high _ _
    have b3 := joinI_lt x y n
    have b4 := joinI_lt x y 0
    generalize joinI x y n = z at c1 c2 c3 c6 b1 b2 b3
    generalize joinI x y 0 = z0 at c4 c5 b4
    go_enter Tryd.func8, Tryd.ntmps8
    go_wp2_with fail
    go_at_call 15
    refine c1.mono ?_
    rintro e w' ⟨rfl, rfl⟩
    go_wp2_with fail
    go_at_call 15
    refine c2.mono ?_
    rintro e w' ⟨rfl, rfl⟩
    go_wp2_with fail
    go_at_call 15
    refine c3.mono ?_
    rintro e w' ⟨rfl, rfl⟩
    go_wp2_with fail
    go_at_call 15
    refine c4.mono ?_
    rintro e w' ⟨rfl, rfl⟩
    go_wp2_with fail
    go_at_call 15
    refine c5.mono ?_
    rintro e w' ⟨rfl, rfl⟩
    go_wp2_with fail
    go_at_call 15
    refine c6.mono ?_
    rintro e w' ⟨rfl, rfl⟩
    clear hb hc h0 h1 hx hy c1 c2 c3 c4 c5 c6 b3 b4
    have d1 : (z : Int) % 65536 < 65535 := by omega
    have d2 : (z : Int) / 65536 < 65535 := by omega
    go_wp2_with fail
    go_at_call 10
    refine (told10 _ hV).mono ?_
    rintro e w' ⟨rfl, hB⟩
    go_wp2
    go_ret
    exact ⟨rfl, hB⟩
end Go.Proofs.YtdcdiniplomnkaaDoor
