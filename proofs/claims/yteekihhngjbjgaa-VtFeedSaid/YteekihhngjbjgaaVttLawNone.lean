/- VtNone: a terminal that is none is not written to, and shows nothing. -/
import Derived.Test.YteekihhngjbjgaaVttDoes2
import Derived.Test.YteekihhngjbjgaaGrdSame
namespace Go.Proofs.Yteekihhngjbjgaa.vtt
open Go.RowKit Go.Lib Go.Proofs.Yteekihhngjbjgaa.grd
set_option linter.unusedVariables false
set_option linter.unusedSimpArgs false
set_option linter.unnecessarySimpa false
set_option linter.unusedSectionVars false

def Yes (w : World) (e : Ending) (w' : World) : Prop := e = .returned (.bool true) ∧ Below w.heap.size w w'
def NoneIs (k : Nat) (v : Value) (w : World) : Prop := (k = 0 ∧ v = .pointer none) ∨ (0 < k ∧ ∃ b, v = .pointer (some ⟨b, 0, none⟩) ∧ b < w.heap.size ∧ w.cell? ⟨b, 5, none⟩ = some .nilFunc)
theorem zero_same (W : World) : Calls Try.prog 17 #[noGrid, noGrid] W fun e w' => e = .returned (.bool true) ∧ Below W.heap.size W w' :=
  refSame_is 0 0 0 0 0 0 0 0 none none 0 0 0 0 [] [] true (sameB_self _ _ _ _ _ _ rfl) W Gr.zero Gr.zero
set_option maxHeartbeats 4000000 in
set_option maxRecDepth 100000 in
theorem law_none (t : ByteArray) (ht : t.size ≤ maxLen) (w : World) : Calls Try.prog 4 #[.string t] w (Yes w) := by
  unfold maxLen at ht
  by_cases h3 : 3000 < t.size
  · go_enter Try.func4, Try.ntmps4
    go_wp2
    go_ret
    exact ⟨rfl, Below.refl _ _⟩
  · have d3 : decide ((3000 : Int) < (t.size : Int)) = false := by simp; omega
    go_enter Try.func4, Try.ntmps4
    go_wp2
    go_loopg [3, 4] 2 (fun g s3 s4 wr => ∃ k : Nat, k ≤ 2 ∧ 2 - k ≤ g ∧ s4 = .int .i64 k ∧ Hid (NoneIs k s3 wr) ∧ Hid (Below w.heap.size w wr))
    case atStart => exact ⟨0, by omega, by omega, rfl, Lib.hid (Or.inl ⟨rfl, rfl⟩), Lib.hid (Below.refl _ _)⟩
    case round =>
      obtain ⟨k, hk, hg, rfl, HN, HB⟩ := hrel
      by_cases hlt : k < 2
      · rcases HN.out with ⟨rfl, rfl⟩ | ⟨hk0, b, rfl, hb, hc⟩
        · go_wp2_with fail
          go_at_call 14
          refine (feed_nil' _ t).mono ?_
          rintro e w' ⟨rfl, rfl⟩
          go_wp2_with fail
          go_at_call 16
          refine (grid_nil _).mono ?_
          rintro e w1 ⟨rfl, hB1⟩
          have HB1 := Lib.hid hB1
          clear hB1
          go_wp2_with fail
          go_at_call 17
          refine (zero_same _).mono ?_
          rintro e w2 ⟨rfl, hB2⟩
          have HB2 : Hid (Below w.heap.size w w2) := Lib.hid ((HB.out.trans (HB1.out.mono HB.out.size)).trans (hB2.mono ((HB.out.trans (HB1.out.mono HB.out.size)).size)))
          have HA : Hid (NoneIs (0 + 1) (.pointer (some ⟨w2.heap.size, 0, none⟩)) (w2.alloc (.cells #[.int .i64 0, .int .i64 0, .slice none 0 0, .int .i64 0, .int .i64 0, .nilFunc, .int .i64 0, .int .i64 0, .int .i64 0, .bool false] 46))) := Lib.hid (Or.inr ⟨by omega, w2.heap.size, rfl, by simp, (At.new w2 46 #[.int .i64 0, .int .i64 0, .slice none 0 0, .int .i64 0, .int .i64 0, .nilFunc, .int .i64 0, .int .i64 0, .int .i64 0, .bool false]).cell 5⟩)
          have HB3 : Hid (Below w.heap.size w (w2.alloc (.cells #[.int .i64 0, .int .i64 0, .slice none 0 0, .int .i64 0, .int .i64 0, .nilFunc, .int .i64 0, .int .i64 0, .int .i64 0, .bool false] 46))) := Lib.hid (HB2.out.alloc HB2.out.size _)
          clear hB2
          go_wp2
          go_roundg (2 - (0 + 1))
          case measure => omega
          case rel => exact ⟨0 + 1, by omega, by omega, by go_num, HA, HB3⟩
        · obtain rfl : k = 1 := by omega
          go_wp2_with fail
          go_at_call 14
          refine (feed_zero b _ hc t).mono ?_
          rintro e w' ⟨rfl, rfl⟩
          go_wp2_with fail
          go_at_call 16
          refine (grid_zero b _ hb hc).mono ?_
          rintro e w1 ⟨rfl, hB1⟩
          have HB1 := Lib.hid hB1
          clear hB1
          go_wp2_with fail
          go_at_call 17
          refine (zero_same _).mono ?_
          rintro e w2 ⟨rfl, hB2⟩
          have HB2 : Hid (Below w.heap.size w w2) := Lib.hid ((HB.out.trans (HB1.out.mono HB.out.size)).trans (hB2.mono ((HB.out.trans (HB1.out.mono HB.out.size)).size)))
          have HA : Hid (NoneIs (1 + 1) (.pointer (some ⟨w2.heap.size, 0, none⟩)) (w2.alloc (.cells #[.int .i64 0, .int .i64 0, .slice none 0 0, .int .i64 0, .int .i64 0, .nilFunc, .int .i64 0, .int .i64 0, .int .i64 0, .bool false] 46))) := Lib.hid (Or.inr ⟨by omega, w2.heap.size, rfl, by simp, (At.new w2 46 #[.int .i64 0, .int .i64 0, .slice none 0 0, .int .i64 0, .int .i64 0, .nilFunc, .int .i64 0, .int .i64 0, .int .i64 0, .bool false]).cell 5⟩)
          have HB3 : Hid (Below w.heap.size w (w2.alloc (.cells #[.int .i64 0, .int .i64 0, .slice none 0 0, .int .i64 0, .int .i64 0, .nilFunc, .int .i64 0, .int .i64 0, .int .i64 0, .bool false] 46))) := Lib.hid (HB2.out.alloc HB2.out.size _)
          clear hB2
          go_wp2
          go_roundg (2 - (1 + 1))
          case measure => omega
          case rel => exact ⟨1 + 1, by omega, by omega, by go_num, HA, HB3⟩
      · obtain rfl : k = 2 := by omega
        have CN1 := Lib.hid (fun W => vnew_no 1 80 (by decide) W)
        have CN2 := Lib.hid (fun W => vnew_no 24 7 (by decide) W)
        go_wp2_with fail
        go_at_call 11
        refine (CN1.out _).mono ?_
        rintro e w1 ⟨rfl, hB1⟩
        have HB1 : Hid (Below w.heap.size w w1) := Lib.hid (HB.out.trans (hB1.mono HB.out.size))
        clear hB1
        go_wp2_with fail
        go_at_call 11
        refine (CN2.out _).mono ?_
        rintro e w2 ⟨rfl, hB2⟩
        have HB2 : Hid (Below w.heap.size w w2) := Lib.hid (HB1.out.trans (hB2.mono HB1.out.size))
        clear hB2
        go_wp2_with fail
        go_at_call 13
        refine (does_is _).mono ?_
        rintro e w3 ⟨rfl, hB3⟩
        have HB3 : Hid (Below w.heap.size w w3) := Lib.hid (HB2.out.trans (hB3.mono HB2.out.size))
        clear hB3
        go_wp2
        go_ret
        exact ⟨rfl, HB3.out⟩
end Go.Proofs.Yteekihhngjbjgaa.vtt
