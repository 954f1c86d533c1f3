/- Templates: the chapter's examples. -/
import Derived.Test.YtibflbepnlemmaaTplRefX
namespace Go.Proofs.Ytibflbepnlemmaa.tpl
open Go.RowKit Go.Lib
set_option linter.unusedVariables false
set_option linter.unusedSimpArgs false
set_option linter.unnecessarySimpa false
set_option linter.unusedSectionVars false

def minF (k : Nat) : Nat → Int := fun i => if i < 2 * k then -1 else 0
theorem minF_upd (k : Nat) : upd2 (minF k) k (-1) (-1) = minF (k + 1) := by
  funext i
  unfold upd2 minF
  by_cases h1 : i = 2 * k
  · subst h1; simp
  · by_cases h2 : i = 2 * k + 1
    · subst h2; simp; omega
    · rw [if_neg h1, if_neg h2]
      by_cases h3 : i < 2 * k
      · rw [if_pos h3, if_pos (by omega)]
      · rw [if_neg h3, if_neg (by omega)]
theorem minF_zero : minF 0 = no0 := by funext i; simp [minF, no0]
def someF : Nat → Int := upd2 (upd2 (minF 10) 0 1 3) 1 2 3

set_option maxHeartbeats 1000000 in
set_option maxRecDepth 100000 in
theorem some_is (w : World) : Calls Try.prog 22 #[] w fun e w' => e = .returned (.agg (spA someF)) ∧ Below w.heap.size w w' := by
  go_enter Try.func22, Try.ntmps22
  go_wp2_with (refine wpList_allocSp rfl rfl ?_; (first | (have := hs1; intro w2 hs2 ha2 hb2; clear this) | (intro w1 hs1 ha1 hb1)))
  have H0 : Hid (Sp w2 w.heap.size no0 ∧ Sp w2 (w.heap.size + 1) no0 ∧ Below w.heap.size w w2 ∧ w2.heap.size = w.heap.size + 2) := Lib.hid (by
    rw [hs1] at ha2 hb2
    exact ⟨At.keep ha1 hb2 (by omega), ha2, hb1.trans (hb2.mono (by omega)), by omega⟩)
  clear ha1 hb1 ha2 hb2 hs2
  have ad := fun (k : Nat) (hk : k < 10) W => addr23 (w.heap.size + 1) k (k : Int) rfl hk W
  have ad0 := fun W => addr23 (w.heap.size + 1) 0 0 rfl (by omega) W
  have ad1 := fun W => addr23 (w.heap.size + 1) 1 1 rfl (by omega) W
  go_loopg [2] 10 (fun g s2 wr => ∃ k : Nat, s2 = .int .i64 k ∧ k ≤ 10 ∧ 10 - k ≤ g ∧ Hid (Sp wr (w.heap.size + 1) (minF k) ∧ Below (w.heap.size + 1) w2 wr ∧ wr.heap.size = w.heap.size + 2))
  case atStart => exact ⟨0, rfl, by omega, by omega, Lib.hid ⟨by rw [minF_zero]; exact H0.out.2.1, Below.refl _ _, H0.out.2.2.2⟩⟩
  case round =>
    obtain ⟨k, rfl, hk, hg, HI⟩ := hrel
    by_cases hlt : k < 10
    · have adk := ad k hlt
      clear ad ad0 ad1
      go_wp2_with (refine wpList_storeP rfl _ _ rfl (w.heap.size + 1) k (-1) (-1) rfl rfl (minF k) HI.out.1 hlt ?_; intro w3 hs3 ha3 hb3)
      rw [minF_upd] at ha3
      have H3 := Lib.hid (And.intro ha3 (And.intro hb3 hs3))
      clear ha3 hb3 hs3
      go_roundg (10 - (k + 1))
      case measure => omega
      case rel => exact ⟨k + 1, by go_num, by omega, by omega, Lib.hid ⟨H3.out.1, HI.out.2.1.trans H3.out.2.1, H3.out.2.2.trans HI.out.2.2⟩⟩
    · obtain rfl : k = 10 := by omega
      clear ad
      go_wp2_with (first | (refine wpList_storeP rfl _ _ rfl (w.heap.size + 1) 0 1 3 rfl rfl (minF 10) HI.out.1 (by omega) ?_; intro w3 hs3 ha3 hb3) | (refine wpList_storeP rfl _ _ rfl (w.heap.size + 1) 1 2 3 rfl rfl _ ha3 (by omega) ?_; intro w4 hs4 ha4 hb4; have ha5 : Sp w4 w.heap.size no0 := At.keep H0.out.1 ((HI.out.2.1.trans hb3).trans hb4) (by omega)) | (refine wpList_loadSp rfl _ rfl _ rfl _ ha4 ?_) | (refine wpList_storeSp rfl _ _ rfl _ _ rfl rfl _ ha5 ?_; intro w6 hs6 ha6 hb6))
      (try simp only [Exit.inBlock, Exit.then])
      refine bodyPost_ret (results_sp rfl rfl ha6) rfl ?_
      exact ⟨rfl, (H0.out.2.2.1.trans (((HI.out.2.1.trans hb3).trans hb4).mono (by omega))).trans hb6⟩
def exR : List UInt8 := [120, 38, 121, 92, 49, 92, 49, 92, 50, 92, 38, 92, 92, 92, 110, 92, 113]
theorem exR_ok : ok exR = true := by decide
theorem exR_mo : mo exR = 2 := by decide
theorem exR_ex : ex (stf someF [97, 98, 99, 100]) exR = [120, 98, 99, 121, 99, 99, 38, 92, 10, 113] := by decide
theorem exN_ok : ok [97, 92] = false := by decide

set_option maxHeartbeats 2000000 in
set_option maxRecDepth 100000 in
theorem does_is (w : World) : Calls Try.prog 13 #[] w fun e w' => e = .returned (.bool true) ∧ Below w.heap.size w w' := by
  have C1 := Lib.hid (fun W => parse_is exR W (by decide))
  have C2 := Lib.hid (fun W => parse_is [97, 92] W (by decide))
  go_enter Try.func13, Try.ntmps13
  go_wp2_with fail
  go_at_call 9
  refine (C1.out _).mono ?_
  rintro e w1 ⟨hs1, hb1⟩
  obtain ⟨v, ps, rfl, hT, hX, hM, hL⟩ := hs1.1 exR_ok
  have HT := Lib.hid (And.intro hT (And.intro hX (And.intro hM hL)))
  have HB1 := Lib.hid hb1
  clear hs1 hb1 hT hX hM hL C1
  go_wp2_with fail
  go_at_call 9
  refine (C2.out _).mono ?_
  rintro e w2 ⟨hs2, hb2⟩
  obtain rfl := hs2.2 exN_ok
  have HB2 := Lib.hid (HB1.out.trans (hb2.mono HB1.out.size))
  have HT2 := Lib.hid (HT.out.1.below hb2)
  clear hs2 hb2 C2
  go_wp2_with fail
  go_at_call 22
  refine (some_is _).mono ?_
  rintro e w3 ⟨rfl, hb3⟩
  have HB3 := Lib.hid (HB2.out.trans (hb3.mono HB2.out.size))
  have HT3 := Lib.hid (HT2.out.below hb3)
  clear hb3
  have hle : ps.length ≤ 1000000 := by have := HT.out.2.2.2; have e : exR.length = 17 := rfl; omega
  have CE := Lib.hid (expand_is v ps [97, 98, 99, 100] someF w3 hle (by decide) (by rw [HT.out.2.1, exR_ex]; decide) HT3.out)
  rw [HT.out.2.1, exR_ex] at CE
  have HLE := Lib.hid hle
  clear hle
  go_wp2_with fail
  go_at_call 12
  refine CE.out.mono ?_
  rintro e w4 ⟨rfl, hb4⟩
  have HB4 := Lib.hid (HB3.out.trans (hb4.mono HB3.out.size))
  have CM := Lib.hid (most_is v ps w4 HLE.out (HT3.out.below hb4))
  rw [HT.out.2.2.1, exR_mo] at CM
  clear hb4 CE
  go_wp2_with fail
  go_at_call 11
  refine CM.out.mono ?_
  rintro e w5 ⟨rfl, hw5⟩
  rw [hw5]
  go_wp2
  go_ret
  exact ⟨rfl, HB4.out⟩
end Go.Proofs.Ytibflbepnlemmaa.tpl
