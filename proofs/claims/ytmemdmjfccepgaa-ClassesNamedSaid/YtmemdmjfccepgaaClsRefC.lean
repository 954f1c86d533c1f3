/- The document's answer: Class; ClassesNamed. -/
import Derived.Test.YtmemdmjfccepgaaClsIn
import Derived.Test.YtmemdmjfccepgaaClsDoes2
namespace Go.Proofs.Ytmemdmjfccepgaa.cls
open Go.RowKit Go.Lib
set_option linter.unusedVariables false
set_option linter.unusedSimpArgs false
set_option linter.unnecessarySimpa false
set_option linter.unusedSectionVars false

set_option maxHeartbeats 2000000 in
set_option maxRecDepth 100000 in
theorem refClass_is (l : List UInt8) (g : Nat → Bool) (ok : Bool) (h1 : clsG l = g) (h2 : (clsOf l).isSome = ok) (w : World) :
    Calls Try.prog 14 #[.string (B l)] w fun e w' => e = .returned (.tuple #[.agg (arr g), .bool ok]) ∧ Below w.heap.size w w' := by
  have C := Lib.hid (fun (c : Nat) (hc : c < 256) (W : World) => in_is l c hc W)
  rw [h1, h2] at C
  clear h1 h2
  go_enter Try.func14, Try.ntmps14
  go_wp2_with (refine wpList_allocA rfl rfl ?_; (first | (have := hs0; intro w1 hs1 ha1 hb1; clear this) | (intro w0 hs0 ha0 hb0)))
  have hA : Arr w1 (w.heap.size + 1) noB := by rw [← hs0]; exact ha1
  have hA0 : Arr w1 w.heap.size noB := ha0.keep hb1 (by omega)
  have HB := Lib.hid (hb0.trans (hb1.mono (by omega)))
  have H0 := Lib.hid hA0
  have H1 := Lib.hid hA
  clear ha0 hb0 ha1 hb1 hA hA0 hs1
  go_at_call 24
  refine (C.out 0 (by decide) w1).mono ?_
  rintro e w2 ⟨rfl, rfl⟩
  go_wp2
  go_loopg [7] 256 (fun g' s7 wr => ∃ k : Nat, s7 = .int .i64 k ∧ k ≤ 256 ∧ 256 - k ≤ g' ∧ Hid (Arr wr (w.heap.size + 1) (mix k g noB) ∧ But (w.heap.size + 1) w2 wr))
  case atStart => exact ⟨0, rfl, Nat.zero_le _, by omega, Lib.hid ⟨by rw [mix_zero]; exact H1.out, But.refl⟩⟩
  case round =>
    obtain ⟨k, rfl, hk, hg, HI⟩ := hrel
    by_cases hlt : k < 256
    · have hwr := nat_u8 k hlt
      have hc := HI.out.1.cell hlt
      have hst := setCell_put HI.out.1 k (g k) hlt
      rw [mix_upd] at hst
      have hfz := HI.out.1.frozen k
      have HP := Lib.hid (And.intro (putA_arr (g := mix (k + 1) g noB) HI.out.1.lt) (putA_but (w := wr) (b := w.heap.size + 1) (g := mix (k + 1) g noB)))
      have D := Lib.hid (C.out k hlt wr)
      go_wp2_with fail
      go_at_call 24
      refine D.out.mono ?_
      rintro e w3 ⟨rfl, rfl⟩
      go_wp2
      go_roundg (256 - (k + 1))
      case measure => omega
      case rel => exact ⟨k + 1, by go_num, by omega, by omega, Lib.hid ⟨HP.out.1, HI.out.2.trans HP.out.2⟩⟩
    · obtain rfl : k = 256 := by omega
      have hA' : Arr wr (w.heap.size + 1) g := by have := HI.out.1; unfold Arr at this ⊢; rw [mix_end] at this; exact this
      have hA0 : Arr wr w.heap.size noB := H0.out.but HI.out.2 (by omega)
      go_wp2_with (first | (refine wpList_loadA rfl _ rfl _ rfl _ hA' ?_) | (refine wpList_storeA rfl _ _ rfl _ _ rfl rfl _ hA0 ?_; intro w4 ha4 hb4))
      (try simp only [Exit.inBlock, Exit.then])
      refine bodyPost_ret (results_A2 rfl rfl ha4) rfl ?_
      exact ⟨rfl, (HB.out.trans (HI.out.2.below (by omega))).trans (hb4.below (Nat.le_refl _))⟩

set_option maxHeartbeats 2000000 in
set_option maxRecDepth 100000 in
theorem law4 (l : List UInt8) (w : World) (hl : l.length ≤ maxLen) (hV : Vs w.heap.size w) :
    Calls Try.prog 4 #[.string (B l)] w fun e w' => e = .returned (.bool true) ∧ Below w.heap.size w w' := by
  unfold maxLen at hl
  have HV := Lib.hid hV
  obtain ⟨m, hm⟩ : ∃ m, l.length = m := ⟨_, rfl⟩
  have hsz : (B l).size = m := by rw [B_size]; exact hm
  have HM := Lib.hid hm
  rw [hm] at hl
  clear hm hV
  by_cases hbig : 1000 < m
  · go_enter Try.func4, Try.ntmps4
    go_wp2
    go_ret
    exact ⟨rfl, Below.refl _ _⟩
  · obtain ⟨g, hg⟩ : ∃ g, clsG l = g := ⟨_, rfl⟩
    obtain ⟨ok, hok⟩ : ∃ ok, (clsOf l).isSome = ok := ⟨_, rfl⟩
    have C1 := Lib.hid (fun W => class_b l g ok hg hok W (by rw [HM.out]; omega))
    have C2 := Lib.hid (fun W => refClass_is l g ok hg hok W)
    clear hg hok
    go_enter Try.func4, Try.ntmps4
    go_wp2_with fail
    go_at_call 13
    refine (C1.out _).mono ?_
    rintro e w1 ⟨rfl, hb1⟩
    go_wp2_with (first | (refine wpList_allocA rfl rfl ?_; intro w2 hs2 ha2 hb2) | (refine wpList_storeA rfl _ _ rfl _ _ rfl rfl _ ha2 ?_; intro w3 ha3 hb3))
    have hz1 := hb1.size
    have q3 : w3.heap.size = w1.heap.size + 1 := by rw [hb3.size, hs2]
    have HB3 := Lib.hid (hb1.trans ((hb2.mono hz1).trans (hb3.below hz1)))
    have A3 := Lib.hid ha3
    clear ha2 hb2 ha3 hb3 hs2 hb1
    go_at_call 14
    refine (C2.out _).mono ?_
    rintro e w4 ⟨rfl, hb4⟩
    have hz4 := hb4.size
    go_wp2_with (first | (refine wpList_allocA rfl rfl ?_; intro w5 hs5 ha5 hb5) | (refine wpList_storeA rfl _ _ rfl _ _ rfl rfl _ ha5 ?_; intro w6 ha6 hb6; have hA1 := ((A3.out.keep hb4 (by omega)).keep hb5 (by omega)).but hb6 (by omega)) | (refine wpList_loadA rfl _ rfl _ rfl _ hA1 ?_) | (refine wpList_loadA rfl _ rfl _ rfl _ ha6 ?_) | (refine wpList_eqM rfl _ _ _ rfl g rfl rfl ?_))
    have HB6 := Lib.hid (HB3.out.trans ((hb4.mono HB3.out.size).trans ((hb5.mono (by omega)).trans (hb6.below (by omega)))))
    go_at_call 12
    refine (does_is _ ((HV.out.below HB6.out).more HB6.out.size)).mono ?_
    rintro e w7 ⟨rfl, hb7⟩
    go_wp2
    go_ret
    exact ⟨rfl, HB6.out.trans (hb7.mono HB6.out.size)⟩
theorem law4L (s : ByteArray) (w : World) (hl : s.size ≤ maxLen) (hV : Vs w.heap.size w) :
    Calls Try.prog 4 #[.string s] w fun e w' => e = .returned (.bool true) ∧ Below w.heap.size w w' := by
  have := law4 s.data.toList w (by rw [Array.length_toList]; exact hl) hV
  rwa [B_list] at this
end Go.Proofs.Ytmemdmjfccepgaa.cls
