/- CoreNone, walked. -/
import Derived.Test.YtdbeedhedjhamaaCorMade2
namespace Go.Proofs.Ytdbeedhedjhamaa.cor
open Go.RowKit Go.Lib pce sps mrk
set_option linter.unusedVariables false
set_option linter.unusedSimpArgs false
set_option linter.unnecessarySimpa false
set_option linter.unusedSectionVars false

theorem bldC0 : Try.prog.built 57 [] = some (coL (.pointer none) zeroM (.pointer none) (.pointer none) (.pointer none) ⟨#[]⟩ false).toArray := by kernel_rfl
theorem AcOk.mono {w : World} {F F' : Nat → Prop} {x : Ac} (h : AcOk w F x) (hF : ∀ b, F b → b < w.heap.size → F' b) : AcOk w F' x := ⟨h.kind, CtOk.mono h.t hF, h.a1, h.a2, h.letter, h.text⟩
theorem ac_one (w : World) (F : Nat → Prop) (x : Ac) (h : AcOk w F x) : Acs (w.alloc (.cells x.cells.toArray 26)) (fun _ => True) (some ⟨w.heap.size, 0, none⟩) [x] := by
  have hB : Below w.heap.size w (w.alloc (.cells x.cells.toArray 26)) := (Below.refl _ _).alloc (Nat.le_refl _) _
  refine ⟨fun _ => ⟨w.heap.size, 0, rfl, trivial, by simp, fun i u hi => ?_⟩, fun y hy => ?_⟩
  · rw [Nat.zero_add, (At.new w 26 x.cells.toArray).cell i, List.getElem?_toArray]
    simpa [flatA] using hi
  · rw [List.mem_singleton.1 hy]
    exact (h.keep (fun b _ hl => hB.block b hl) hB.size).mono fun _ _ _ => trivial
set_option maxHeartbeats 16000000 in
set_option maxRecDepth 100000 in
theorem law_none (w : World) (x : Ac) (h : AcOk w (· < w.heap.size) x) :
    Calls Try.prog 3 #[.agg #[.int .u8 x.kind, .int .i64 x.t.a, .int .i64 x.t.d, .slice x.t.A x.t.ins.length x.t.c, .int .i64 x.at_, .int .u8 x.letter, .string x.text]] w fun e w' => e = .returned (.bool true) ∧ Below w.heap.size w w' := by
  have hok := Lib.hid h
  clear h
  go_enter Try.func3, Try.ntmps3
  go_wp2_with fail
  obtain ⟨w1, hw1⟩ : ∃ w1, w.alloc (.cells x.cells.toArray 26) = w1 := ⟨_, rfl⟩
  have hB1 : Below w.heap.size w w1 := hw1 ▸ (Below.refl _ _).alloc (Nat.le_refl _) _
  have hA1 : At w1 w.heap.size 26 x.cells.toArray := hw1 ▸ At.new w _ _
  have hok1 : AcOk w1 (· < w.heap.size) x := hok.out.keep (fun b _ hl => hB1.block b hl) hB1.size
  have hz1 : w1.heap.size = w.heap.size + 1 := by rw [← hw1]; simp
  have KB := beyond_is (w1.alloc (.cells x.cells.toArray 26)) _ _ 1 1 [x] 1 (by decide) rfl (by decide) (ac_one w1 _ x hok1)
  have hB2 : Below w1.heap.size w1 (w1.alloc (.cells x.cells.toArray 26)) := (Below.refl _ _).alloc (Nat.le_refl _) _
  obtain ⟨w2, hw2⟩ : ∃ w2, w1.alloc (.cells x.cells.toArray 26) = w2 := ⟨_, rfl⟩
  rw [hw2, hz1] at KB hB2
  have e2 : (w.alloc (.cells x.cells.toArray 26)).alloc (.cells x.cells.toArray 26) = w2 := by rw [hw1, hw2]
  simp only [Ac.cells] at e2
  rw [e2]
  have hA2 := hA1.same (hB2.block _ (by omega))
  have HB := Lib.hid (hB1.trans (hB2.mono (by omega)))
  clear e2 hw2 hw1 hok1 hz1 hB1 hA1 hB2 hok
  go_at_call 5
  refine KB.mono ?_
  rintro e w3 ⟨rfl | ⟨rfl, _, _⟩, rfl⟩
  · have KL := Lib.hid (lives_is w2)
    go_wp2_with (go_at_call 6; (with_reducible refine KL.out.mono ?_); rintro e w3 ⟨rfl, hB⟩)
    go_ret
    exact ⟨rfl, HB.out.trans (hB.mono HB.out.size)⟩
  clear KB
  have HA := Lib.hid hA2
  clear hA2
  obtain ⟨b1, hb1⟩ : ∃ b1, w.heap.size = b1 := ⟨_, rfl⟩
  rw [hb1] at HA ⊢
  go_wp2_with fail
  go_loopg [3, 4] 2 (fun g s3 s4 wr => ∃ k : Nat, k ≤ 2 ∧ 2 - k ≤ g ∧ s4 = .int .i64 k ∧ Hid (NoC wr s3) ∧ Hid (Below w2.heap.size w2 wr))
  case atStart => exact ⟨0, by omega, by omega, rfl, Lib.hid (.inl rfl), Lib.hid (Below.refl _ _)⟩
  case round =>
    obtain ⟨k, hk, hg, rfl, HN, HW⟩ := hrel
    by_cases hlt : k < 2
    · have KU := Lib.hid (none_Undo HN.out)
      have KV := Lib.hid (none_View HN.out)
      go_wp2_with (go_at_call 7; (with_reducible refine KU.out.mono ?_); rintro e w4 ⟨rfl, rfl⟩)
      go_at_call 8
      (with_reducible refine KV.out.mono ?_)
      rintro e w4 ⟨rfl, hB4⟩
      clear KU KV
      obtain ⟨w5, hw5⟩ : ∃ w5, w4.alloc (.cells (viL (.slice none 0 0) zeroM ⟨#[]⟩).toArray 38) = w5 := ⟨_, rfl⟩
      have hA5 : At w5 w4.heap.size 38 (viL (.slice none 0 0) zeroM ⟨#[]⟩).toArray := hw5 ▸ At.new _ _ _
      have hB5 : Below w4.heap.size w4 w5 := hw5 ▸ (Below.refl _ _).alloc (Nat.le_refl _) _
      have HA5 := Lib.hid hA5
      clear hA5
      go_wp2_with (first
        | (refine wpList_allocV rfl 38 rfl _ (zerV _) ?_; rw [hw5]; clear hw5)
        | (refine wpList_storeM rfl 38 (.tmp 7) (.tmp 22) rfl w4.heap.size 38 [] (viL (.slice none 0 0) zeroM ⟨#[]⟩) [] (by rw [List.nil_append, List.append_nil]; exact HA5.out) (viL (.slice none 0 0) zeroM ⟨#[]⟩) rfl 0 rfl rfl rfl (by rw [vi_len]; exact infV) (vi_one rfl) ?_
           intro w6 hA6 hO6
           rw [List.nil_append, List.append_nil] at hA6
           have hB6 : Below wr.heap.size wr w6 := hB4.trans (((hB5.trans (hO6.below (Nat.le_refl _)))).mono hB4.size)
           have hN6 := HN.out.below hB6
           have hW6 := HW.out.trans (hB6.mono HW.out.size)
           have hX6 := HA.out.same (hW6.block _ HA.out.lt)
           have e1 : w6.cell? ⟨b1, 1, none⟩ = some (.int .i64 x.t.a) := (At.cell' hX6 1).trans rfl
           have e2 : w6.cell? ⟨b1, 2, none⟩ = some (.int .i64 x.t.d) := (At.cell' hX6 2).trans rfl
           have e3 : w6.cell? ⟨b1, 3, none⟩ = some (.slice x.t.A x.t.ins.length x.t.c) := (At.cell' hX6 3).trans rfl
           have e4 : w6.cell? ⟨b1, 4, none⟩ = some (.int .i64 x.at_) := (At.cell' hX6 4).trans rfl
           have e5 : w6.cell? ⟨b1, 5, none⟩ = some (.int .u8 x.letter) := (At.cell' hX6 5).trans rfl
           have e6 : w6.cell? ⟨b1, 6, none⟩ = some (.string x.text) := (At.cell' hX6 6).trans rfl
           have v0 : w6.cell? ⟨w4.heap.size, 0, none⟩ = some (.slice none 0 0) := (At.cell' hA6 0).trans rfl
           have v1 : w6.cell? ⟨w4.heap.size, 1, none⟩ = some (.int .i64 0) := (At.cell' hA6 1).trans rfl
           have v28 : w6.cell? ⟨w4.heap.size, 28, none⟩ = some (.string ⟨#[]⟩) := (At.cell' hA6 28).trans rfl
           have H6 := Lib.hid hN6
           have HW6 := Lib.hid hW6
           clear hB4 hB5 hA6 hO6 hN6 hW6 hX6 hB6 HA5 HW HN HA
           generalize w4.heap.size = vb at *)
        | (go_at_call 9; (with_reducible refine (none_Last H6.out x.text).mono ?_); rintro e w7 ⟨rfl, rfl⟩)
        | (go_at_call 10; (with_reducible refine (none_Clean H6.out).mono ?_); rintro e w7 ⟨rfl, rfl⟩)
        | (go_at_call 11; (with_reducible refine (none_Abort H6.out).mono ?_); rintro e w7 ⟨rfl, rfl⟩)
        | (go_at_call 12; (with_reducible refine (none_N H6.out).mono ?_); rintro e w7 ⟨rfl, rfl⟩)
        | (go_at_call 13; (with_reducible refine (none_Line H6.out x.at_).mono ?_); rintro e w7 ⟨rfl, rfl⟩)
        | (go_at_call 14; (with_reducible refine (none_Lines H6.out 1 9).mono ?_); rintro e w7 ⟨rfl, rfl⟩)
        | (go_at_call 15; (with_reducible refine (none_Cur H6.out).mono ?_); rintro e w7 ⟨rfl, rfl⟩)
        | (go_at_call 16; (with_reducible refine (none_Go H6.out x.at_).mono ?_); rintro e w7 ⟨rfl, rfl⟩)
        | (go_at_call 17; (with_reducible refine (none_Mark H6.out x.letter x.at_).mono ?_); rintro e w7 ⟨rfl, rfl⟩)
        | (go_at_call 18; (with_reducible refine (none_Regs H6.out).mono ?_); rintro e w7 ⟨rfl, rfl⟩)
        | (go_at_call 19; (with_reducible refine (none_Dirty H6.out).mono ?_); rintro e w7 ⟨rfl, rfl⟩)
        | (go_at_call 20; (with_reducible refine (none_Begin H6.out).mono ?_); rintro e w7 ⟨rfl, rfl⟩)
        | fail "NONE")
      go_at_call 21
      (with_reducible refine (none_Splice H6.out x.t.a x.t.d x.t.A x.t.ins.length x.t.c).mono ?_)
      rintro e w7 ⟨rfl, hB7⟩
      have H7 := Lib.hid (H6.out.below hB7)
      have HW7 := Lib.hid (HW6.out.trans (hB7.mono HW6.out.size))
      clear H6 HW6 hB7 e1 e2 e3 e4 e5 e6 v0 v1 v28
      go_wp2_with (first
        | (go_at_call 22; (with_reducible refine (none_End H7.out).mono ?_); rintro e w8 ⟨rfl, rfl⟩)
        | (refine wpList_buildV rfl 57 _ rfl #[] (by simp) _ bldC0 ?_)
        | (refine wpList_boxV rfl 57 _ rfl _ rfl ?_)
        | fail "NONE")
      go_roundg (2 - (k + 1))
      case measure => omega
      case rel =>
        have hB8 : Below w7.heap.size w7 (w7.alloc (.cells (coL (.pointer none) zeroM (.pointer none) (.pointer none) (.pointer none) ⟨#[]⟩ false).toArray 57)) := (Below.refl _ _).alloc (Nat.le_refl _) _
        exact ⟨k + 1, by omega, by omega, by go_num, Lib.hid (.inr ⟨_, _, rfl, At.new _ _ _, rfl⟩), Lib.hid (HW7.out.trans (hB8.mono HW7.out.size))⟩
    · obtain rfl : k = 2 := by omega
      have KL := Lib.hid (lives_is wr)
      go_wp2_with (go_at_call 6; (with_reducible refine KL.out.mono ?_); rintro e w3 ⟨rfl, hB⟩)
      go_ret
      exact ⟨rfl, HB.out.trans ((HW.out.trans (hB.mono HW.out.size)).mono HB.out.size)⟩
end Go.Proofs.Ytdbeedhedjhamaa.cor
