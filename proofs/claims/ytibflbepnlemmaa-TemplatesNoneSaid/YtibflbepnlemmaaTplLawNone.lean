/- TemplatesNone, walked. -/
import Derived.Test.YtibflbepnlemmaaTplDoes
namespace Go.Proofs.Ytibflbepnlemmaa.tpl
open Go.RowKit Go.Lib
set_option linter.unusedVariables false
set_option linter.unusedSimpArgs false
set_option linter.unnecessarySimpa false
set_option linter.unusedSectionVars false

set_option maxHeartbeats 4000000 in
set_option maxRecDepth 100000 in
theorem law4 (s : List UInt8) (f : Nat → Int) (w : World) (hl : s.length ≤ maxLen) :
    Calls Try.prog 4 #[.string (B s), .agg (spA f)] w fun e w' => e = .returned (.bool true) ∧ Below w.heap.size w w' := by
  unfold maxLen at hl
  obtain ⟨m, hm⟩ : ∃ m, s.length = m := ⟨_, rfl⟩
  have hsz : (B s).size = m := by rw [B_size]; exact hm
  have HM := Lib.hid hm
  rw [hm] at hl
  clear hm
  by_cases hbig : 3000 < m
  · go_enter Try.func4, Try.ntmps4
    go_wp2_with (refine wpList_boxSp rfl _ rfl f rfl ?_; intro w1 hs1 hp1 hb1)
    go_ret
    exact ⟨rfl, hb1⟩
  · have hs3 : s.length ≤ 1000000 := by rw [HM.out]; omega
    have C1 := Lib.hid (fun W => parse_is [] W (by simp))
    have CE := Lib.hid (fun v W (h : Tp W v []) => expand_is v [] s f W (by simp) hs3 (by simp [exP]) h)
    have CN := Lib.hid (fun W => expand_nil s f W hs3)
    have CM := Lib.hid (fun v W (h : Tp W v []) => most_is v [] W (by simp) h)
    have CMN := Lib.hid (fun W => most_nil W)
    have CD := Lib.hid (fun W => does_is W)
    rw [show (∀ v W (h : Tp W v []), Calls Try.prog 12 #[v, .string (B s), .agg (spA f)] W fun e w' => e = .returned (.string (B (exP (stf f s) []))) ∧ Below W.heap.size W w') = (∀ v W (h : Tp W v []), Calls Try.prog 12 #[v, .string (B s), .agg (spA f)] W fun e w' => e = .returned (.string ⟨#[]⟩) ∧ Below W.heap.size W w') from rfl] at CE
    clear hs3
    go_enter Try.func4, Try.ntmps4
    go_wp2_with (refine wpList_boxSp rfl _ rfl f rfl ?_; intro w1 hs1 hp1 hb1)
    go_at_call 9
    refine (C1.out _).mono ?_
    rintro e w2 ⟨hs2, hb2⟩
    obtain ⟨v, ps, rfl, hT, _, _, hL⟩ := hs2.1 rfl
    obtain rfl : ps = [] := List.length_eq_zero_iff.1 (by simpa using hL)
    have hp2 : Sp w2 w.heap.size f := At.keep hp1 hb2 (by omega)
    have H2 := Lib.hid (And.intro (hb1.trans (hb2.mono hb1.size)) (And.intro hT (And.intro hp2 hs1)))
    clear hs2 hb1 hb2 hp1 hT hL hs1
    go_wp2_with (refine wpList_loadSpM rfl _ rfl _ rfl f hp2 ?_)
    go_at_call 12
    refine (CE.out v w2 H2.out.2.1).mono ?_
    rintro e w3 ⟨rfl, hb3⟩
    have H3 := Lib.hid (And.intro (H2.out.1.trans (hb3.mono H2.out.1.size)) (H2.out.2.1.below hb3))
    have hp3 : Sp w3 w.heap.size f := At.keep hp2 hb3 (At.lt hp2)
    clear hb3 hp2
    go_wp2_with fail
    go_at_call 11
    refine (CM.out v w3 H3.out.2).mono ?_
    rintro e w4 ⟨rfl, hw4⟩
    rw [hw4]
    clear hw4
    go_wp2_with (refine wpList_loadSpM rfl _ rfl _ rfl f hp3 ?_)
    go_at_call 12
    refine (CN.out w3).mono ?_
    rintro e w5 ⟨rfl, hb5⟩
    have H5 := Lib.hid (H3.out.1.trans (hb5.mono H3.out.1.size))
    have hp5 : Sp w5 w.heap.size f := At.keep hp3 hb5 (At.lt hp3)
    clear hb5 hp3
    go_wp2_with fail
    go_at_call 11
    refine (CMN.out w5).mono ?_
    rintro e w6 ⟨rfl, hw6⟩
    rw [hw6]
    clear hw6
    have hp7 : Sp (w5.alloc (.cells #[.slice none 0 0] 37)) w.heap.size f := At.alloc hp5 _
    have hT7 : Tp (w5.alloc (.cells #[.slice none 0 0] 37)) (.pointer (some ⟨w5.heap.size, 0, none⟩)) [] := ⟨_, none, 0, rfl, At.new w5 _ _, VRd.nil, fun p h => by simp at h⟩
    have H7 := Lib.hid (And.intro (H5.out.alloc H5.out.size (.cells #[.slice none 0 0] 37)) hT7)
    clear hT7 hp5
    go_wp2_with (refine wpList_loadSpM rfl _ rfl _ rfl f hp7 ?_)
    go_at_call 12
    refine (CE.out _ _ H7.out.2).mono ?_
    rintro e w8 ⟨rfl, hb8⟩
    have H8 := Lib.hid (H7.out.1.trans (hb8.mono H7.out.1.size))
    clear hb8 hp7
    go_wp2_with fail
    go_at_call 13
    refine (CD.out w8).mono ?_
    rintro e w9 ⟨rfl, hb9⟩
    go_wp2
    go_ret
    exact ⟨rfl, H8.out.trans (hb9.mono H8.out.size)⟩
theorem law4L (s : ByteArray) (f : Nat → Int) (w : World) (hl : s.size ≤ maxLen) :
    Calls Try.prog 4 #[.string s, .agg (spA f)] w fun e w' => e = .returned (.bool true) ∧ Below w.heap.size w w' := by
  have := law4 s.data.toList f w (by rw [Array.length_toList]; exact hl)
  rwa [B_list] at this
end Go.Proofs.Ytibflbepnlemmaa.tpl
