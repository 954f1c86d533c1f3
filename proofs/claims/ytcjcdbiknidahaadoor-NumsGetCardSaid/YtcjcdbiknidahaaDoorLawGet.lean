/- The law NumsGet, walked: for every text and place it is true, and nothing that was there has turned. -/
import Derived.Test.YtcjcdbiknidahaaDoorDoes
namespace Go.Proofs.YtcjcdbiknidahaaDoor
open Go.RowKit Go.Lib

set_option maxHeartbeats 4000000 in
set_option maxRecDepth 100000 in
theorem law4 (s : ByteArray) (a : Int) (w : World) (hs : s.size ≤ 140737488351232) (hV : Vars w.heap.size w) :
    Calls Tryd.prog 4 #[.string s, .int .i64 a] w fun e w' => e = .returned (.bool true) ∧ Below w.heap.size w w' := by
  have G := Lib.hid (fun W hW => get20 s a W hs hW)
  have R := Lib.hid (fun W => refGetI21 s a W hs)
  have T := Lib.hid (fun W hW => getText22 s a W hs hW)
  have U := Lib.hid (fun W => refGetText23 s a W hs)
  rcases hn : atN s.data.toList a with _ | n
  all_goals rcases ht : atT s.data.toList a with _ | t
  all_goals
    rw [hn] at G R
    rw [ht] at T U
    simp only [retN] at G R
    simp only [retT] at T U
    clear hn ht
    try generalize (putN n).length = pn at G R
    try generalize (putT t).length = pt at T U
    try generalize a + (pn : Int) = an at G R
    try generalize a + (pt : Int) = at' at T U
    go_enter Tryd.func4, Tryd.ntmps4
    go_wp2_with fail
    go_at_call 20
    refine (G.out w hV).mono ?_
    rintro e w1 ⟨rfl, HB1⟩
    have V1 := hV.next HB1
    have hz1 := HB1.size
    clear hV G
    go_wp2_with fail
    go_at_call 21
    refine (R.out w1).mono ?_
    rintro e w2 ⟨rfl, hB2⟩
    have V2 := V1.next hB2
    have HB2 := HB1.trans (hB2.mono hz1)
    have hz2 := HB2.size
    clear V1 hB2 HB1 R
    go_wp2_with fail
    go_at_call 22
    refine (T.out w2 V2).mono ?_
    rintro e w3 ⟨rfl, hB3⟩
    have V3 := V2.next hB3
    have HB3 := HB2.trans (hB3.mono hz2)
    have hz3 := HB3.size
    clear V2 hB3 HB2 T
    go_wp2_with fail
    go_at_call 23
    refine (U.out w3).mono ?_
    rintro e w4 ⟨rfl, hB4⟩
    have V4 := V3.next hB4
    have HB4 := HB3.trans (hB4.mono hz3)
    have hz4 := HB4.size
    clear V3 hB4 HB3 U
    go_wp2_with fail
    go_at_call 19
    refine (does19 w4 V4).mono ?_
    rintro e w5 ⟨rfl, hB5⟩
    have HB5 := HB4.trans (hB5.mono hz4)
    clear V4 hB5 HB4
    go_wp2
    go_ret
    exact ⟨rfl, HB5⟩
end Go.Proofs.YtcjcdbiknidahaaDoor
