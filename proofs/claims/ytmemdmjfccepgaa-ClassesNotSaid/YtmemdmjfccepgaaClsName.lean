/- Classes: the classes by their names. -/
import Derived.Test.YtmemdmjfccepgaaClsOps
namespace Go.Proofs.Ytmemdmjfccepgaa.cls
open Go.RowKit Go.Lib
open Go.ChangeMaps (setBlock)
set_option linter.unusedVariables false
set_option linter.unusedSimpArgs false
set_option linter.unnecessarySimpa false
set_option linter.unusedSectionVars false

theorem span_at (w : World) (ai bi : Int) (a b n : Nat) (ha : ai = a) (hb : bi = b) (hn : n ≤ w.heap.size) :
    Calls Try.prog 29 #[.int .u8 ai, .int .u8 bi] w fun e w' => ∃ v, e = .returned v ∧ FnIs n w' v (btw a b) ∧ Below w.heap.size w w' := by
  subst ha hb
  exact span_is w a b n hn

set_option maxHeartbeats 2000000 in
set_option maxRecDepth 100000 in
theorem byName_is (w : World) : Calls Try.prog 23 #[] w fun e w' => ∃ v, e = .returned v ∧ TabIs w.heap.size w' v ∧ Below w.heap.size w w' := by
  obtain ⟨n, hn⟩ : ∃ n, w.heap.size = n := ⟨_, rfl⟩
  have HN := Lib.hid hn
  rw [hn]
  clear hn
  go_enter Try.func23, Try.ntmps23
  go_wp2_with fail
  go_at_call 29
  refine (span_at w 97 122 97 122 n rfl rfl (by rw [HN.out]; exact Nat.le_refl _)).mono ?_
  rintro e w1 ⟨v1, rfl, f1, b1⟩
  have F1 := Lib.hid (And.intro f1 b1)
  have n1 : n ≤ w1.heap.size := by have := b1.size; rw [HN.out] at this; exact this
  clear f1 b1
  go_wp2_with fail
  go_at_call 29
  refine (span_at w1 65 90 65 90 n rfl rfl n1).mono ?_
  rintro e w2 ⟨v2, rfl, f2, b2⟩
  have F2 := Lib.hid (And.intro f2 b2)
  have n2 : n ≤ w2.heap.size := by have := b2.size; omega
  clear f2 b2
  go_wp2_with fail
  go_at_call 29
  refine (span_at w2 48 57 48 57 n rfl rfl n2).mono ?_
  rintro e w3 ⟨v3, rfl, f3, b3⟩
  have F3 := Lib.hid (And.intro f3 b3)
  have n3 : n ≤ w3.heap.size := by have := b3.size; omega
  have c1 := Lib.hid F1.out.1.cells
  have c2 := Lib.hid F2.out.1.cells
  clear f3 b3
  go_wp2_with (refine wpList_row2 rfl _ _ rfl v1 v2 rfl rfl c1.out c2.out ?_)
  go_at_call 30
  have a3 : Below w3.heap.size w3 (w3.alloc (.cells #[v1, v2] 35)) := (Below.refl _ _).alloc (Nat.le_refl _) _
  have g1 : FnIs n w3 v1 fLower := F1.out.1.kp ((Kp.of_below F2.out.2).trans (Kp.of_below F3.out.2))
  have g2 : FnIs n w3 v2 fUpper := F2.out.1.kp (Kp.of_below F3.out.2)
  have A3 := Lib.hid (And.intro a3 (And.intro g1 g2))
  refine (oneOf_is (w3.alloc (.cells #[v1, v2] 35)) n w3.heap.size [v1, v2] [fLower, fUpper] (by simp; omega) n3 rfl (by simp) (new_at _ _) (fun i v f hv hf => ?_)).mono ?_
  · have k := Kp.of_below (n := n) a3
    match i, hv, hf with
    | 0, hv, hf => simp at hv hf; subst hv hf; exact g1.kp k
    | 1, hv, hf => simp at hv hf; subst hv hf; exact g2.kp k
    | i + 2, hv, hf => simp at hv
  clear a3 g1 g2
  rintro e w4 ⟨v4, rfl, f4, b4⟩
  have n4 : n ≤ w4.heap.size := by have := b4.size; simp at this; omega
  have F4 := Lib.hid (And.intro f4 ((A3.out.1).trans (b4.mono (by simp))))
  clear f4 b4
  have c3 := Lib.hid F3.out.1.cells
  have c4 := Lib.hid F4.out.1.cells
  go_wp2_with (refine wpList_row2 rfl _ _ rfl v4 v3 rfl rfl c4.out c3.out ?_)
  go_at_call 30
  have a4 : Below w4.heap.size w4 (w4.alloc (.cells #[v4, v3] 35)) := (Below.refl _ _).alloc (Nat.le_refl _) _
  have g3 : FnIs n w4 v3 fDigit := F3.out.1.kp (Kp.of_below F4.out.2)
  have A4 := Lib.hid (And.intro a4 g3)
  refine (oneOf_is (w4.alloc (.cells #[v4, v3] 35)) n w4.heap.size [v4, v3] [anyF [fLower, fUpper], fDigit] (by simp; omega) n4 rfl (by simp) (new_at _ _) (fun i v f hv hf => ?_)).mono ?_
  · have k := Kp.of_below (n := n) a4
    match i, hv, hf with
    | 0, hv, hf => simp at hv hf; subst hv hf; exact F4.out.1.kp k
    | 1, hv, hf => simp at hv hf; subst hv hf; exact g3.kp k
    | i + 2, hv, hf => simp at hv
  clear a4 g3
  rintro e w5 ⟨v5, rfl, f5, b5⟩
  have n5 : n ≤ w5.heap.size := by have := b5.size; simp at this; omega
  have F5 := Lib.hid (And.intro f5 ((A4.out.1).trans (b5.mono (by simp))))
  obtain ⟨k5, cs5, e5⟩ : ∃ k cs, v5 = .func (.func k) #[] cs := by obtain ⟨k, cs, h, _⟩ := f5; exact ⟨k, cs, h⟩
  subst e5
  clear f5 b5 c3 c4 c1 c2
  have st5 := run_storeF k5 cs5 w5
  go_wp2_with fail
  go_at_call 29
  refine (span_at _ 33 126 33 126 n rfl rfl (by simp; omega)).mono ?_
  rintro e w6 ⟨v6, rfl, f6, b6⟩
  have a5 : Below w5.heap.size w5 (w5.alloc (.cells #[.func (.func k5) #[] cs5] 35)) := (Below.refl _ _).alloc (Nat.le_refl _) _
  have r5 : w6.heap[w5.heap.size]? = some (.cells #[.func (.func k5) #[] cs5] 35) := (b6.block _ (by simp)).trans (new_at _ _)
  have F6 := Lib.hid (And.intro f6 (And.intro (a5.trans (b6.mono (by simp))) r5))
  have n6 : n ≤ w6.heap.size := by have := b6.size; simp at this; omega
  obtain ⟨k6, cs6, e6⟩ : ∃ k cs, v6 = .func (.func k) #[] cs := by obtain ⟨k, cs, h, _⟩ := f6; exact ⟨k, cs, h⟩
  subst e6
  clear f6 b6 a5 r5 st5
  have st6 := run_storeF k6 cs6 w6
  go_wp2_with fail
  clear st6
  have a6 : Below w6.heap.size w6 (w6.alloc (.cells #[.func (.func k6) #[] cs6] 35)) := (Below.refl _ _).alloc (Nat.le_refl _) _
  obtain ⟨w7, e7⟩ : ∃ w7, w6.alloc (.cells #[.func (.func k6) #[] cs6] 35) = w7 := ⟨_, rfl⟩
  have r6 : w7.heap[w6.heap.size]? = some (.cells #[.func (.func k6) #[] cs6] 35) := by rw [← e7]; exact new_at _ _
  rw [e7] at a6 ⊢
  have S0 : St n w (Array.replicate 40 false) { tmps := #[Value.map none, v1, v2, v3, v4, Value.pointer (some { block := w5.heap.size, off := 0 }), Value.pointer (some { block := w6.heap.size, off := 0 }), v1, v2, v3, v1, v2,
          Value.slice (some { block := w3.heap.size, off := 0 }) 2 2, v4, v4, v3, Value.slice (some { block := w4.heap.size, off := 0 }) 2 2, Value.func (Fn.func k5) #[] cs5, Value.func (Fn.func k6) #[] cs6, undef, undef, undef, undef, undef, undef, undef, undef, undef, undef, undef,
          undef, undef, undef, undef, undef, undef, undef, undef, undef, undef, undef, undef, undef, undef, undef, undef], defers := [] } { w7 with drawn := w7.drawn + 1 } := by
    have q1 : Kp n w1 w7 := (Kp.of_below F2.out.2).trans ((Kp.of_below F3.out.2).trans ((Kp.of_below F4.out.2).trans ((Kp.of_below F5.out.2).trans ((Kp.of_below F6.out.2.1).trans (Kp.of_below a6)))))
    have q2 : Kp n w2 w7 := (Kp.of_below F3.out.2).trans ((Kp.of_below F4.out.2).trans ((Kp.of_below F5.out.2).trans ((Kp.of_below F6.out.2.1).trans (Kp.of_below a6))))
    have q3 : Kp n w3 w7 := (Kp.of_below F4.out.2).trans ((Kp.of_below F5.out.2).trans ((Kp.of_below F6.out.2.1).trans (Kp.of_below a6)))
    have q4 : Kp n w4 w7 := (Kp.of_below F5.out.2).trans ((Kp.of_below F6.out.2.1).trans (Kp.of_below a6))
    have q5 : Kp n w5 w7 := (Kp.of_below F6.out.2.1).trans (Kp.of_below a6)
    have q6 : Kp n w6 w7 := Kp.of_below a6
    have q7 : Kp n w7 { w7 with drawn := w7.drawn + 1 } := ⟨Nat.le_refl _, fun _ _ _ _ h => h⟩
    have n7 : n ≤ w7.heap.size := Nat.le_trans n6 q6.size
    have be : Below n w w7 := by
      have b1 := F1.out.2; rw [HN.out] at b1
      exact b1.trans ((F2.out.2.mono n1).trans ((F3.out.2.mono n2).trans ((F4.out.2.mono n3).trans ((F5.out.2.mono n4).trans ((F6.out.2.1.mono n5).trans (a6.mono n6))))))
    have no : ∀ i, (Array.replicate 40 false).getD i false = false := fun i => by simp [Array.getD_eq_getD_getElem?, Array.getElem?_replicate]; split <;> rfl
    refine ⟨by simp, rfl, rfl, ⟨be.os, be.tape, be.output, be.size, be.block⟩, n7, (F1.out.1.kp q1).kp q7, (F2.out.1.kp q2).kp q7, (F3.out.1.kp q3).kp q7, ?_, ?_, ?_, ?_, ?_, ?_, ?_, ?_⟩
    · exact ((F4.out.1.kp q4).kp q7).eq fun c => by simp [anyF, fAlpha, or2]
    · exact ⟨w5.heap.size, _, rfl, n5, q6.cells _ n5 _ _ F6.out.2.2, ((F5.out.1.kp q5).kp q7).eq fun c => by simp [anyF, fAlnum, fAlpha, or2]⟩
    · exact ⟨w6.heap.size, _, rfl, n6, r6, (F6.out.1.kp q6).kp q7⟩
    · intro j hj hL; rw [no j] at hL; cases hL
    · intro hL; rw [no 0] at hL; cases hL
    · intro _; exact ⟨no 38, no 39, fun j _ => no j⟩
    · intro hL; rw [no 38] at hL; cases hL
    · intro hL; rw [no 39] at hL; cases hL
  have S1 := Lib.hid S0
  clear S0 a6 r6 F1 F2 F3 F4 F5 F6 A3 A4
  refine wp_region_any (by kernel_rfl) ?_
  refine wpAny_inv (St n w) (downB_spec (by kernel_rfl)) ?_ ?_ _ _ _ _ (by simp) (by decide) S1.out
  · clear S1
    intro L a W i o hI ho hL hall
    have hi40 : i < 40 := (Array.getElem?_eq_some_iff.1 ho).1
    obtain rfl | rfl | rfl | rfl | rfl | rfl | rfl | rfl | rfl | rfl | rfl | rfl | rfl | rfl | rfl | rfl | rfl | rfl | rfl | rfl | rfl | rfl | rfl | rfl | rfl | rfl | rfl | rfl | rfl | rfl | rfl | rfl | rfl | rfl | rfl | rfl | rfl | rfl | rfl | rfl : i = 0 ∨ i = 1 ∨ i = 2 ∨ i = 3 ∨ i = 4 ∨ i = 5 ∨ i = 6 ∨ i = 7 ∨ i = 8 ∨ i = 9 ∨ i = 10 ∨ i = 11 ∨ i = 12 ∨ i = 13 ∨ i = 14 ∨ i = 15 ∨ i = 16 ∨ i = 17 ∨ i = 18 ∨ i = 19 ∨ i = 20 ∨ i = 21 ∨ i = 22 ∨ i = 23 ∨ i = 24 ∨ i = 25 ∨ i = 26 ∨ i = 27 ∨ i = 28 ∨ i = 29 ∨ i = 30 ∨ i = 31 ∨ i = 32 ∨ i = 33 ∨ i = 34 ∨ i = 35 ∨ i = 36 ∨ i = 37 ∨ i = 38 ∨ i = 39 := by omega
    · obtain rfl := Option.some.inj ho
      exact wpOp_val rfl rfl (execOp_map rfl) (hI.made hL)
    · obtain rfl := Option.some.inj ho
      exact wpOp_val rfl rfl (execOp_move rfl) (hI.val (Below.refl _ _) 1 (by decide) _ hI.s1)
    · obtain rfl := Option.some.inj ho
      have g : FnIs n W (sl a (dOf 1)) (fOf 2) := hI.sv 1 (by decide) (hall ⟨1, .data⟩ (by simp) rfl)
      obtain ⟨w', hr, hS⟩ := hI.ins 2 (by decide) hL (hall ⟨0, .data⟩ (by simp) rfl) _ g _ rfl
      exact wpOp_skip rfl rfl (execOp_ins rfl hr) hS
    · obtain rfl := Option.some.inj ho
      exact wpOp_val rfl rfl (execOp_move rfl) (hI.val (Below.refl _ _) 3 (by decide) _ hI.s2)
    · obtain rfl := Option.some.inj ho
      have g : FnIs n W (sl a (dOf 3)) (fOf 4) := hI.sv 3 (by decide) (hall ⟨3, .data⟩ (by simp) rfl)
      obtain ⟨w', hr, hS⟩ := hI.ins 4 (by decide) hL (hall ⟨0, .data⟩ (by simp) rfl) _ g _ rfl
      exact wpOp_skip rfl rfl (execOp_ins rfl hr) hS
    · obtain rfl := Option.some.inj ho
      exact wpOp_val rfl rfl (execOp_move rfl) (hI.val (Below.refl _ _) 5 (by decide) _ hI.s4)
    · obtain rfl := Option.some.inj ho
      have g : FnIs n W (sl a (dOf 5)) (fOf 6) := hI.sv 5 (by decide) (hall ⟨5, .data⟩ (by simp) rfl)
      obtain ⟨w', hr, hS⟩ := hI.ins 6 (by decide) hL (hall ⟨0, .data⟩ (by simp) rfl) _ g _ rfl
      exact wpOp_skip rfl rfl (execOp_ins rfl hr) hS
    · obtain rfl := Option.some.inj ho
      exact wpOp_val rfl rfl (execOp_move rfl) (hI.val (Below.refl _ _) 7 (by decide) _ hI.s3)
    · obtain rfl := Option.some.inj ho
      have g : FnIs n W (sl a (dOf 7)) (fOf 8) := hI.sv 7 (by decide) (hall ⟨7, .data⟩ (by simp) rfl)
      obtain ⟨w', hr, hS⟩ := hI.ins 8 (by decide) hL (hall ⟨0, .data⟩ (by simp) rfl) _ g _ rfl
      exact wpOp_skip rfl rfl (execOp_ins rfl hr) hS
    · obtain rfl := Option.some.inj ho
      obtain ⟨b, u, hv, hb, hc, hf⟩ := hI.s5
      refine wpOp_val (v := u) rfl rfl (execOp_load rfl ?_) (hI.val (Below.refl _ _) 9 (by decide) u hf)
      rw [show a.eval (.tmp 5) = _ from hv]
      exact run_loadF hc
    · obtain rfl := Option.some.inj ho
      have g : FnIs n W (sl a (dOf 9)) (fOf 10) := hI.sv 9 (by decide) (hall ⟨9, .data⟩ (by simp) rfl)
      obtain ⟨w', hr, hS⟩ := hI.ins 10 (by decide) hL (hall ⟨0, .data⟩ (by simp) rfl) _ g _ rfl
      exact wpOp_skip rfl rfl (execOp_ins rfl hr) hS
    · obtain rfl := Option.some.inj ho
      exact wpOp_val rfl rfl (execOp_move rfl) (hI.val (Below.refl _ _) 11 (by decide) _ hI.s3)
    · obtain rfl := Option.some.inj ho
      refine wpOp_call rfl rfl (execOp_span rfl (fun _ => rfl) rfl) ((span_at W 97 102 97 102 n rfl rfl hI.nw).mono ?_)
      rintro e w' ⟨v, rfl, hf, hB⟩
      exact ⟨v, rfl, hI.val hB 12 (by decide) v hf⟩
    · obtain rfl := Option.some.inj ho
      refine wpOp_call rfl rfl (execOp_span rfl (fun _ => rfl) rfl) ((span_at W 65 70 65 70 n rfl rfl hI.nw).mono ?_)
      rintro e w' ⟨v, rfl, hf, hB⟩
      exact ⟨v, rfl, hI.val hB 13 (by decide) v hf⟩
    · obtain rfl := Option.some.inj ho
      have g0 : FnIs n W (sl a (dOf 11)) _ := hI.sv 11 (by decide) (hall ⟨11, .data⟩ (by simp) rfl)
      have g1 : FnIs n W (sl a (dOf 12)) _ := hI.sv 12 (by decide) (hall ⟨12, .data⟩ (by simp) rfl)
      have g2 : FnIs n W (sl a (dOf 13)) _ := hI.sv 13 (by decide) (hall ⟨13, .data⟩ (by simp) rfl)
      have hB : Below W.heap.size W (W.alloc (.cells #[sl a (dOf 11), sl a (dOf 12), sl a (dOf 13)] 35)) := (Below.refl _ _).alloc (Nat.le_refl _) _
      refine wpOp_val rfl rfl (execOp_row rfl (by simp only [List.map_toArray, List.map_cons, List.map_nil]; rfl) (run_row3 (sl a (dOf 11)) (sl a (dOf 12)) (sl a (dOf 13)) g0.cells g1.cells g2.cells W)) (hI.val hB 14 (by decide) _ ⟨W.heap.size, [sl a (dOf 11), sl a (dOf 12), sl a (dOf 13)], rfl, hI.nw, rfl, new_at _ _, fun i v f hv hf => ?_⟩)
      have q := Kp.of_below (n := n) hB
      match i, hv, hf with
      | 0, hv, hf => obtain rfl := Option.some.inj hv; obtain rfl := Option.some.inj hf; exact g0.kp q
      | 1, hv, hf => obtain rfl := Option.some.inj hv; obtain rfl := Option.some.inj hf; exact g1.kp q
      | 2, hv, hf => obtain rfl := Option.some.inj hv; obtain rfl := Option.some.inj hf; exact g2.kp q
      | i + 3, hv, hf => simp at hv
    · obtain rfl := Option.some.inj ho
      obtain ⟨r, vs, hv, hr, hl, hb, hf⟩ := hI.sv 14 (by decide) (hall ⟨14, .data⟩ (by simp) rfl)
      refine wpOp_call rfl rfl (execOp_one rfl rfl) ?_
      rw [show a.eval (.tmp 28) = _ from hv, ← hl]
      refine (oneOf_is W n r vs _ hI.nw hr hl (by rw [hl]; decide) hb hf).mono ?_
      rintro e w' ⟨v, rfl, hf', hB⟩
      exact ⟨v, rfl, hI.val hB 15 (by decide) v (FnIs.eq hf' fun c => by simp [anyF, fXdigit, fSpace, fBlank, fCntrl, or2])⟩
    · obtain rfl := Option.some.inj ho
      have g : FnIs n W (sl a (dOf 15)) (fOf 16) := hI.sv 15 (by decide) (hall ⟨15, .data⟩ (by simp) rfl)
      obtain ⟨w', hr, hS⟩ := hI.ins 16 (by decide) hL (hall ⟨0, .data⟩ (by simp) rfl) _ g _ rfl
      exact wpOp_skip rfl rfl (execOp_ins rfl hr) hS
    · obtain rfl := Option.some.inj ho
      refine wpOp_call rfl rfl (execOp_span rfl (fun _ => rfl) rfl) ((span_at W 9 13 9 13 n rfl rfl hI.nw).mono ?_)
      rintro e w' ⟨v, rfl, hf, hB⟩
      exact ⟨v, rfl, hI.val hB 17 (by decide) v hf⟩
    · obtain rfl := Option.some.inj ho
      refine wpOp_call rfl rfl (execOp_span rfl (fun _ => rfl) rfl) ((span_at W 32 32 32 32 n rfl rfl hI.nw).mono ?_)
      rintro e w' ⟨v, rfl, hf, hB⟩
      exact ⟨v, rfl, hI.val hB 18 (by decide) v hf⟩
    · obtain rfl := Option.some.inj ho
      have g0 : FnIs n W (sl a (dOf 17)) _ := hI.sv 17 (by decide) (hall ⟨17, .data⟩ (by simp) rfl)
      have g1 : FnIs n W (sl a (dOf 18)) _ := hI.sv 18 (by decide) (hall ⟨18, .data⟩ (by simp) rfl)
      have hB : Below W.heap.size W (W.alloc (.cells #[sl a (dOf 17), sl a (dOf 18)] 35)) := (Below.refl _ _).alloc (Nat.le_refl _) _
      refine wpOp_val rfl rfl (execOp_row rfl (by simp only [List.map_toArray, List.map_cons, List.map_nil]; rfl) (run_row2 (sl a (dOf 17)) (sl a (dOf 18)) g0.cells g1.cells W)) (hI.val hB 19 (by decide) _ ⟨W.heap.size, [sl a (dOf 17), sl a (dOf 18)], rfl, hI.nw, rfl, new_at _ _, fun i v f hv hf => ?_⟩)
      have q := Kp.of_below (n := n) hB
      match i, hv, hf with
      | 0, hv, hf => obtain rfl := Option.some.inj hv; obtain rfl := Option.some.inj hf; exact g0.kp q
      | 1, hv, hf => obtain rfl := Option.some.inj hv; obtain rfl := Option.some.inj hf; exact g1.kp q
      | i + 2, hv, hf => simp at hv
    · obtain rfl := Option.some.inj ho
      obtain ⟨r, vs, hv, hr, hl, hb, hf⟩ := hI.sv 19 (by decide) (hall ⟨19, .data⟩ (by simp) rfl)
      refine wpOp_call rfl rfl (execOp_one rfl rfl) ?_
      rw [show a.eval (.tmp 32) = _ from hv, ← hl]
      refine (oneOf_is W n r vs _ hI.nw hr hl (by rw [hl]; decide) hb hf).mono ?_
      rintro e w' ⟨v, rfl, hf', hB⟩
      exact ⟨v, rfl, hI.val hB 20 (by decide) v (FnIs.eq hf' fun c => by simp [anyF, fXdigit, fSpace, fBlank, fCntrl, or2])⟩
    · obtain rfl := Option.some.inj ho
      have g : FnIs n W (sl a (dOf 20)) (fOf 21) := hI.sv 20 (by decide) (hall ⟨20, .data⟩ (by simp) rfl)
      obtain ⟨w', hr, hS⟩ := hI.ins 21 (by decide) hL (hall ⟨0, .data⟩ (by simp) rfl) _ g _ rfl
      exact wpOp_skip rfl rfl (execOp_ins rfl hr) hS
    · obtain rfl := Option.some.inj ho
      refine wpOp_call rfl rfl (execOp_span rfl (fun _ => rfl) rfl) ((span_at W 9 9 9 9 n rfl rfl hI.nw).mono ?_)
      rintro e w' ⟨v, rfl, hf, hB⟩
      exact ⟨v, rfl, hI.val hB 22 (by decide) v hf⟩
    · obtain rfl := Option.some.inj ho
      refine wpOp_call rfl rfl (execOp_span rfl (fun _ => rfl) rfl) ((span_at W 32 32 32 32 n rfl rfl hI.nw).mono ?_)
      rintro e w' ⟨v, rfl, hf, hB⟩
      exact ⟨v, rfl, hI.val hB 23 (by decide) v hf⟩
    · obtain rfl := Option.some.inj ho
      have g0 : FnIs n W (sl a (dOf 22)) _ := hI.sv 22 (by decide) (hall ⟨22, .data⟩ (by simp) rfl)
      have g1 : FnIs n W (sl a (dOf 23)) _ := hI.sv 23 (by decide) (hall ⟨23, .data⟩ (by simp) rfl)
      have hB : Below W.heap.size W (W.alloc (.cells #[sl a (dOf 22), sl a (dOf 23)] 35)) := (Below.refl _ _).alloc (Nat.le_refl _) _
      refine wpOp_val rfl rfl (execOp_row rfl (by simp only [List.map_toArray, List.map_cons, List.map_nil]; rfl) (run_row2 (sl a (dOf 22)) (sl a (dOf 23)) g0.cells g1.cells W)) (hI.val hB 24 (by decide) _ ⟨W.heap.size, [sl a (dOf 22), sl a (dOf 23)], rfl, hI.nw, rfl, new_at _ _, fun i v f hv hf => ?_⟩)
      have q := Kp.of_below (n := n) hB
      match i, hv, hf with
      | 0, hv, hf => obtain rfl := Option.some.inj hv; obtain rfl := Option.some.inj hf; exact g0.kp q
      | 1, hv, hf => obtain rfl := Option.some.inj hv; obtain rfl := Option.some.inj hf; exact g1.kp q
      | i + 2, hv, hf => simp at hv
    · obtain rfl := Option.some.inj ho
      obtain ⟨r, vs, hv, hr, hl, hb, hf⟩ := hI.sv 24 (by decide) (hall ⟨24, .data⟩ (by simp) rfl)
      refine wpOp_call rfl rfl (execOp_one rfl rfl) ?_
      rw [show a.eval (.tmp 36) = _ from hv, ← hl]
      refine (oneOf_is W n r vs _ hI.nw hr hl (by rw [hl]; decide) hb hf).mono ?_
      rintro e w' ⟨v, rfl, hf', hB⟩
      exact ⟨v, rfl, hI.val hB 25 (by decide) v (FnIs.eq hf' fun c => by simp [anyF, fXdigit, fSpace, fBlank, fCntrl, or2])⟩
    · obtain rfl := Option.some.inj ho
      have g : FnIs n W (sl a (dOf 25)) (fOf 26) := hI.sv 25 (by decide) (hall ⟨25, .data⟩ (by simp) rfl)
      obtain ⟨w', hr, hS⟩ := hI.ins 26 (by decide) hL (hall ⟨0, .data⟩ (by simp) rfl) _ g _ rfl
      exact wpOp_skip rfl rfl (execOp_ins rfl hr) hS
    · obtain rfl := Option.some.inj ho
      refine wpOp_call rfl rfl (execOp_span rfl (fun _ => rfl) rfl) ((span_at W 0 31 0 31 n rfl rfl hI.nw).mono ?_)
      rintro e w' ⟨v, rfl, hf, hB⟩
      exact ⟨v, rfl, hI.val hB 27 (by decide) v hf⟩
    · obtain rfl := Option.some.inj ho
      refine wpOp_call rfl rfl (execOp_span rfl (fun _ => rfl) rfl) ((span_at W 127 127 127 127 n rfl rfl hI.nw).mono ?_)
      rintro e w' ⟨v, rfl, hf, hB⟩
      exact ⟨v, rfl, hI.val hB 28 (by decide) v hf⟩
    · obtain rfl := Option.some.inj ho
      have g0 : FnIs n W (sl a (dOf 27)) _ := hI.sv 27 (by decide) (hall ⟨27, .data⟩ (by simp) rfl)
      have g1 : FnIs n W (sl a (dOf 28)) _ := hI.sv 28 (by decide) (hall ⟨28, .data⟩ (by simp) rfl)
      have hB : Below W.heap.size W (W.alloc (.cells #[sl a (dOf 27), sl a (dOf 28)] 35)) := (Below.refl _ _).alloc (Nat.le_refl _) _
      refine wpOp_val rfl rfl (execOp_row rfl (by simp only [List.map_toArray, List.map_cons, List.map_nil]; rfl) (run_row2 (sl a (dOf 27)) (sl a (dOf 28)) g0.cells g1.cells W)) (hI.val hB 29 (by decide) _ ⟨W.heap.size, [sl a (dOf 27), sl a (dOf 28)], rfl, hI.nw, rfl, new_at _ _, fun i v f hv hf => ?_⟩)
      have q := Kp.of_below (n := n) hB
      match i, hv, hf with
      | 0, hv, hf => obtain rfl := Option.some.inj hv; obtain rfl := Option.some.inj hf; exact g0.kp q
      | 1, hv, hf => obtain rfl := Option.some.inj hv; obtain rfl := Option.some.inj hf; exact g1.kp q
      | i + 2, hv, hf => simp at hv
    · obtain rfl := Option.some.inj ho
      obtain ⟨r, vs, hv, hr, hl, hb, hf⟩ := hI.sv 29 (by decide) (hall ⟨29, .data⟩ (by simp) rfl)
      refine wpOp_call rfl rfl (execOp_one rfl rfl) ?_
      rw [show a.eval (.tmp 40) = _ from hv, ← hl]
      refine (oneOf_is W n r vs _ hI.nw hr hl (by rw [hl]; decide) hb hf).mono ?_
      rintro e w' ⟨v, rfl, hf', hB⟩
      exact ⟨v, rfl, hI.val hB 30 (by decide) v (FnIs.eq hf' fun c => by simp [anyF, fXdigit, fSpace, fBlank, fCntrl, or2])⟩
    · obtain rfl := Option.some.inj ho
      have g : FnIs n W (sl a (dOf 30)) (fOf 31) := hI.sv 30 (by decide) (hall ⟨30, .data⟩ (by simp) rfl)
      obtain ⟨w', hr, hS⟩ := hI.ins 31 (by decide) hL (hall ⟨0, .data⟩ (by simp) rfl) _ g _ rfl
      exact wpOp_skip rfl rfl (execOp_ins rfl hr) hS
    · obtain rfl := Option.some.inj ho
      obtain ⟨b, u, hv, hb, hc, hf⟩ := hI.s6
      refine wpOp_val (v := u) rfl rfl (execOp_load rfl ?_) (hI.val (Below.refl _ _) 32 (by decide) u hf)
      rw [show a.eval (.tmp 6) = _ from hv]
      exact run_loadF hc
    · obtain rfl := Option.some.inj ho
      have g : FnIs n W (sl a (dOf 32)) (fOf 33) := hI.sv 32 (by decide) (hall ⟨32, .data⟩ (by simp) rfl)
      obtain ⟨w', hr, hS⟩ := hI.ins 33 (by decide) hL (hall ⟨0, .data⟩ (by simp) rfl) _ g _ rfl
      exact wpOp_skip rfl rfl (execOp_ins rfl hr) hS
    · obtain rfl := Option.some.inj ho
      refine wpOp_call rfl rfl (execOp_span rfl (fun _ => rfl) rfl) ((span_at W 32 126 32 126 n rfl rfl hI.nw).mono ?_)
      rintro e w' ⟨v, rfl, hf, hB⟩
      exact ⟨v, rfl, hI.val hB 34 (by decide) v hf⟩
    · obtain rfl := Option.some.inj ho
      have g : FnIs n W (sl a (dOf 34)) (fOf 35) := hI.sv 34 (by decide) (hall ⟨34, .data⟩ (by simp) rfl)
      obtain ⟨w', hr, hS⟩ := hI.ins 35 (by decide) hL (hall ⟨0, .data⟩ (by simp) rfl) _ g _ rfl
      exact wpOp_skip rfl rfl (execOp_ins rfl hr) hS
    · obtain rfl := Option.some.inj ho
      obtain ⟨b5, u5, hv5, hb5, hc5, hf5⟩ := hI.s5
      obtain ⟨b6, u6, hv6, hb6, hc6, hf6⟩ := hI.s6
      refine wpOp_val rfl rfl (execOp_fn rfl) (hI.val (Below.refl _ _) 36 (by decide) _ ?_)
      rw [show a.eval (.tmp 6) = _ from hv6, show a.eval (.tmp 5) = _ from hv5]
      refine ⟨_, _, rfl, fun c W => rfl, fun W' hW c hc => ?_⟩
      have e6 := hW.cells b6 hb6 _ _ hc6
      have e5 := hW.cells b5 hb5 _ _ hc5
      exact punctF n W' b6 b5 c u6 u5 fGraph fAlnum (by unfold World.cell?; simp only [e6]; rfl) (by unfold World.cell?; simp only [e5]; rfl) (hf6.kp hW) (hf5.kp hW) hc
    · obtain rfl := Option.some.inj ho
      have g : FnIs n W (sl a (dOf 36)) (fOf 37) := hI.sv 36 (by decide) (hall ⟨36, .data⟩ (by simp) rfl)
      obtain ⟨w', hr, hS⟩ := hI.ins 37 (by decide) hL (hall ⟨0, .data⟩ (by simp) rfl) _ g _ rfl
      exact wpOp_skip rfl rfl (execOp_ins rfl hr) hS
    · obtain rfl := Option.some.inj ho
      exact wpOp_val rfl rfl (execOp_move rfl) (hI.move 38 45 (.inl ⟨rfl, rfl⟩) (hall ⟨0, .data⟩ (by simp) rfl) _ rfl)
    · obtain rfl := Option.some.inj ho
      exact wpOp_val rfl rfl (execOp_assign rfl) (hI.move 39 0 (.inr ⟨rfl, rfl⟩) (hall ⟨0, .phase⟩ (by simp) rfl) _ (hI.e38 (hall ⟨38, .data⟩ (by simp) rfl)))
  · clear S1
    intro L a W hI hall
    have HD := Lib.hid (hI.done hall)
    have hdf := hI.df
    clear hall hI
    rename_i hK
    simp only [Exit.then]
    refine hK _ _ ?_
    refine wp_ret ?_
    exact bodyPost_ret (results_tmp rfl _ _ _) hdf ⟨_, rfl, HD.out.1, HD.out.2⟩
end Go.Proofs.Ytmemdmjfccepgaa.cls
