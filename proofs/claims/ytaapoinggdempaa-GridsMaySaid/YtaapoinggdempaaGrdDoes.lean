/- Grids: the chapter's examples come out. -/
import Derived.Test.YtaapoinggdempaaGrdPut
import Derived.Test.YtaapoinggdempaaGrdText
namespace Go.Proofs.Ytaapoinggdempaa.grd
open Go.RowKit Go.Lib
set_option linter.unusedVariables false
set_option linter.unusedSimpArgs false
set_option linter.unnecessarySimpa false
set_option linter.unusedSectionVars false

def More (p : Nat) (wb W : World) : Prop := Below p wb W
abbrev Zg : Array Value := #[.int .i64 0, .int .i64 0, .slice none 0 0, .int .i64 0, .int .i64 0]
theorem laid {w1 W1 : World} (hBut : But w1.heap.size (w1.alloc (.cells #[.int .i64 0, .int .i64 0, .slice none 0 0, .int .i64 0, .int .i64 0] 24)) W1) : Below w1.heap.size w1 W1 ∧ W1.heap.size = w1.heap.size + 1 :=
  ⟨((Below.refl _ _).alloc (Nat.le_refl _) _).trans (hBut.below (Nat.le_refl _)), by rw [hBut.size]; simp⟩
theorem newZ (w : World) : At (w.alloc (.cells #[.int .i64 0, .int .i64 0, .slice none 0 0, .int .i64 0, .int .i64 0] 24)) w.heap.size 24 #[.int .i64 0, .int .i64 0, .slice none 0 0, .int .i64 0, .int .i64 0] := At.new _ _ _
theorem few28 : few (blankC 2 8) := few_blank 2 8 (by decide) (by decide)
theorem new28 (W : World) : Calls Try.prog 9 #[.int .i64 2, .int .i64 8] W fun e w' => ∃ h, e = .returned (.tuple #[.agg #[.int .i64 2, .int .i64 8, .slice (some ⟨h, 0, none⟩) 2 2, .int .i64 0, .int .i64 0], .int .i64 0]) ∧ Gr w' W.heap.size w'.heap.size (some ⟨h, 0, none⟩) 2 2 (blankC 2 8) ∧ Below W.heap.size W w' :=
  new_yes 2 8 (by decide) (by decide) (by decide) (by decide) W
theorem new18 (W : World) : Calls Try.prog 9 #[.int .i64 1, .int .i64 8] W fun e w' => e = .returned (.tuple #[noGrid, .int .i64 2]) ∧ Below W.heap.size W w' := new_no 1 8 (by decide) W
theorem new2133 (W : World) : Calls Try.prog 9 #[.int .i64 2, .int .i64 133] W fun e w' => e = .returned (.tuple #[noGrid, .int .i64 2]) ∧ Below W.heap.size W w' := new_no 2 133 (by decide) W
def hC : List (List UInt8) := putC ⟨2, 8, blankC 2 8, 0, 0⟩ 1 3 120
theorem hC_is : hC = [[32, 32, 32, 32, 32, 32, 32, 32], [32, 32, 32, 120, 32, 32, 32, 32]] := by decide +kernel
theorem hC_no : putC ⟨2, 8, blankC 2 8, 0, 0⟩ 2 0 120 = blankC 2 8 := by decide +kernel
theorem may_h : may ⟨2, 8, hC, 0, 0⟩ = true := by decide +kernel
theorem few_h : few hC := few_put ⟨2, 8, blankC 2 8, 0, 0⟩ 1 3 120 few28
theorem not_same : sameB 2 8 0 0 2 8 0 0 (blankC 2 8) hC = false := by decide +kernel
theorem put28 (A : Option Addr) (W : World) (h1 : Gr W 0 W.heap.size A 2 2 (blankC 2 8)) :
    Calls Try.prog 16 #[.agg #[.int .i64 2, .int .i64 8, .slice A 2 2, .int .i64 0, .int .i64 0], .int .i64 1, .int .i64 3, .int .u8 120] W fun e w' => ∃ h, e = .returned (.agg #[.int .i64 2, .int .i64 8, .slice (some ⟨h, 0, none⟩) 2 2, .int .i64 0, .int .i64 0]) ∧ Gr w' 0 w'.heap.size (some ⟨h, 0, none⟩) 2 2 hC ∧ Below W.heap.size W w' := by
  refine (put_is 2 8 0 0 A 2 2 (blankC 2 8) 1 3 120 W few28 h1).mono ?_
  rintro e w' ⟨h, rfl, hO, hB⟩
  exact ⟨h, rfl, (hO.rows few_h).mono (Nat.zero_le _) (Nat.le_refl _), hB⟩
theorem put20 (A : Option Addr) (W : World) (h1 : Gr W 0 W.heap.size A 2 2 (blankC 2 8)) :
    Calls Try.prog 16 #[.agg #[.int .i64 2, .int .i64 8, .slice A 2 2, .int .i64 0, .int .i64 0], .int .i64 2, .int .i64 0, .int .u8 120] W fun e w' => ∃ h, e = .returned (.agg #[.int .i64 2, .int .i64 8, .slice (some ⟨h, 0, none⟩) 2 2, .int .i64 0, .int .i64 0]) ∧ Gr w' 0 w'.heap.size (some ⟨h, 0, none⟩) 2 2 (blankC 2 8) ∧ Below W.heap.size W w' := by
  refine (put_is 2 8 0 0 A 2 2 (blankC 2 8) 2 0 120 W few28 h1).mono ?_
  rintro e w' ⟨h, rfl, hO, hB⟩
  rw [hC_no] at hO
  exact ⟨h, rfl, (hO.rows few28).mono (Nat.zero_le _) (Nat.le_refl _), hB⟩
/-- Two lists of two texts that are the same. -/
theorem law_same2 (A A' : Option Addr) (c d : Nat) (x y : ByteArray) (W : World) (h1 : SRd W W.heap.size A [x, y]) (h2 : SRd W W.heap.size A' [x, y]) :
    Calls Try.prog 20 #[.slice A 2 c, .slice A' 2 d] W fun e w' => e = .returned (.bool true) ∧ Below W.heap.size W w' := by
  refine (same12 A A' c d W.heap.size 2 2 [x, y] [x, y] W rfl rfl (by decide) (by decide) h1 h2).mono ?_
  rintro e w' ⟨rfl, q, rfl⟩
  exact ⟨by rw [decide_eq_true rfl], below_drewN (Below.refl _ _) _⟩
theorem srd_lit (W : World) (x y : ByteArray) : SRd (W.alloc (.cells #[.string x, .string y] 9)) (W.alloc (.cells #[.string x, .string y] 9)).heap.size (some ⟨W.heap.size, 0, none⟩) [x, y] := fun _ => by
  refine ⟨W.heap.size, 0, rfl, by simp, fun j hj => ?_⟩
  match j, hj with
  | 0, _ => exact (At.new W 9 #[.string x, .string y]).cell 0
  | 1, _ => exact (At.new W 9 #[.string x, .string y]).cell 1
/-- The text told first, then the list written; or the other way round. -/
theorem lit_after (A : Option Addr) (x y : ByteArray) (W : World) (h1 : SRd W W.heap.size A [x, y]) :
    Calls Try.prog 20 #[.slice A 2 2, .slice (some ⟨W.heap.size, 0, none⟩) 2 2] (W.alloc (.cells #[.string x, .string y] 9)) fun e w' => e = .returned (.bool true) ∧ Below (W.alloc (.cells #[.string x, .string y] 9)).heap.size (W.alloc (.cells #[.string x, .string y] 9)) w' :=
  law_same2 A _ 2 2 x y _ ((h1.alloc (Nat.le_refl _) _).more (by simp)) (srd_lit W x y)
theorem lit_ahead (A : Option Addr) (x y : ByteArray) (W0 W : World) (h1 : SRd W W.heap.size A [x, y]) (hB : Below (W0.alloc (.cells #[.string x, .string y] 9)).heap.size (W0.alloc (.cells #[.string x, .string y] 9)) W) :
    Calls Try.prog 20 #[.slice A 2 2, .slice (some ⟨W0.heap.size, 0, none⟩) 2 2] W fun e w' => e = .returned (.bool true) ∧ Below W.heap.size W w' :=
  law_same2 A _ 2 2 x y _ h1 (((srd_lit W0 x y).below hB).more hB.size)
theorem lit_ahead_d (A : Option Addr) (x y : ByteArray) (W0 W : World) (h1 : SRd W W.heap.size A [x, y]) (hB : Below (W0.alloc (.cells #[.string x, .string y] 9)).drew.heap.size (W0.alloc (.cells #[.string x, .string y] 9)).drew W) :
    Calls Try.prog 20 #[.slice A 2 2, .slice (some ⟨W0.heap.size, 0, none⟩) 2 2] W fun e w' => e = .returned (.bool true) ∧ Below W.heap.size W w' :=
  law_same2 A _ 2 2 x y _ h1 (((srd_lit W0 x y).drew.below hB).more hB.size)
abbrev ln8 : ByteArray := ⟨#[32, 32, 32, 32, 32, 32, 32, 32]⟩
abbrev lnX : ByteArray := ⟨#[32, 32, 32, 120, 32, 32, 32, 32]⟩
theorem and_more {A B : Prop} {n : Nat} {wb W : World} (h : A ∧ B ∧ More n wb W) : More n wb W := h.2.2
theorem more_alloc {wb W : World} (h : More wb.heap.size wb W) (o : Obj) : More wb.heap.size wb (W.alloc o) := Below.alloc h h.size o
theorem more_drew {wb W : World} (h : More wb.heap.size wb W) : More wb.heap.size wb W.drew := below_drew h
theorem more_trans {wb W W' : World} (h : More wb.heap.size wb W) (hB : Below W.heap.size W W') : More wb.heap.size wb W' := Below.trans h (hB.mono h.size)
theorem gr_more {wb W : World} {A : Option Addr} {n c : Nat} {ls : List (List UInt8)} (hG : Gr wb 0 wb.heap.size A n c ls) (h : More wb.heap.size wb W) : Gr W 0 W.heap.size A n c ls := (hG.below h (Nat.le_refl _)).mono (Nat.le_refl _) h.size
set_option maxHeartbeats 8000000 in
set_option maxRecDepth 100000 in
theorem does_is (w : World) : Calls Try.prog 12 #[] w fun e w' => e = .returned (.bool true) ∧ Below w.heap.size w w' := by
  go_enter Try.func12, Try.ntmps12
  go_wp2_with fail
  go_at_call 9
  refine (new28 _).mono ?_
  rintro e w1 ⟨h0, rfl, hG, hB1⟩
  have HG := Lib.hid hG
  have HB1 := Lib.hid hB1
  have HZ1 := Lib.hid (newZ w1)
  clear hG hB1
  go_wp2_with (refine wpList_storeG rfl (.tmp 1) (.tmp 10) rfl w1.heap.size 2 8 0 0 (some ⟨h0, 0, none⟩) 2 2 rfl rfl _ HZ1.out rfl ?_; intro W1 hA1 hBut1)
  go_at_call 9
  refine (new18 _).mono ?_
  rintro e w2 ⟨rfl, hB2⟩
  have HA1 := Lib.hid hA1
  have HU1 := Lib.hid hBut1
  have HB2 := Lib.hid hB2
  have HZ2 := Lib.hid (newZ w2)
  clear hA1 hBut1 hB2
  go_wp2_with (refine wpList_storeG rfl (.tmp 3) (.tmp 14) rfl w2.heap.size 0 0 0 0 none 0 0 rfl rfl _ HZ2.out rfl ?_; intro W2 hA2 hBut2)
  go_at_call 9
  refine (new2133 _).mono ?_
  rintro e w3 ⟨rfl, hB3⟩
  have HU2 := Lib.hid hBut2
  have HB3 := Lib.hid hB3
  have HZ3 := Lib.hid (newZ w3)
  clear hA2 hBut2 hB3
  have L1 := Lib.hid (laid HU1.out)
  have L2 := Lib.hid (laid HU2.out)
  have z1 := HB1.out.size
  have z2 := L1.out.2
  have z3 := HB2.out.size
  have z4 := L2.out.2
  have z5 := HB3.out.size
  have K1 : Hid (Below W1.heap.size W1 w3) := Lib.hid (HB2.out.trans ((L2.out.1.mono (by omega)).trans (HB3.out.mono (by omega))))
  go_wp2_with (refine wpList_storeG rfl (.tmp 5) (.tmp 18) rfl w3.heap.size 0 0 0 0 none 0 0 rfl rfl _ HZ3.out rfl ?_; intro W3 hA3 hBut3; have HU3 := Lib.hid hBut3; have L3 := Lib.hid (laid hBut3); have K2 : Hid (Below W1.heap.size W1 W3) := Lib.hid (K1.out.trans (L3.out.1.mono (by omega))); have HA13 := Lib.hid (HA1.out.keep K2.out HA1.out.lt); clear hA3 hBut3; obtain ⟨a0, a1, a2, a3, a4⟩ := HA13.out.five)
  go_at_call 16
  have HG3 : Hid (Gr W3 0 W3.heap.size (some ⟨h0, 0, none⟩) 2 2 (blankC 2 8)) := Lib.hid (((HG.out.below L1.out.1 (Nat.le_refl _)).below K2.out (by omega)).mono (Nat.zero_le _) (by have := L3.out.2; omega))
  refine (put28 _ _ HG3.out).mono ?_
  rintro e w4 ⟨h1, rfl, hG4, hB4⟩
  have HG4 := Lib.hid hG4
  have HB4 := Lib.hid hB4
  have HZ4 := Lib.hid (newZ w4)
  clear hG4 hB4 a0 a1 a2 a3 a4
  go_wp2_with (refine wpList_storeG rfl (.tmp 7) (.tmp 21) rfl w4.heap.size 2 8 0 0 (some ⟨h1, 0, none⟩) 2 2 rfl rfl _ HZ4.out rfl ?_; intro wb hA7 hBut7)
  have L4 := Lib.hid (laid hBut7)
  have z6 := L3.out.2
  have z7 := HB4.out.size
  have z8 := L4.out.2
  have K3 : Hid (Below W3.heap.size W3 wb) := Lib.hid (HB4.out.trans (L4.out.1.mono (by omega)))
  have AB1 := HA13.out.keep K3.out (by have := HA13.out.lt; omega)
  have GB : Hid (Gr wb 0 wb.heap.size (some ⟨h0, 0, none⟩) 2 2 (blankC 2 8)) := Lib.hid ((HG3.out.below K3.out (Nat.le_refl _)).mono (Nat.le_refl _) K3.out.size)
  have GH : Hid (Gr wb 0 wb.heap.size (some ⟨h1, 0, none⟩) 2 2 hC) := Lib.hid ((HG4.out.below L4.out.1 (Nat.le_refl _)).mono (Nat.le_refl _) L4.out.1.size)
  have BB : Hid (Below w.heap.size w wb) := Lib.hid (HB1.out.trans ((L1.out.1.mono z1).trans ((K2.out.mono (by omega)).trans (K3.out.mono (by omega)))))
  have C1 := Lib.hid AB1
  have C7 := Lib.hid hA7
  clear AB1 hA7 hBut7 HG HB1 HZ1 HA1 HU1 HB2 HZ2 HU2 HB3 HZ3 L1 L2 K1 HU3 L3 K2 HA13 HG3 HG4 HB4 HZ4 L4 K3
  have SK : Hid (∀ W, More wb.heap.size wb W → (W.cell? ⟨w1.heap.size, 0, none⟩ = some (.int .i64 2) ∧ W.cell? ⟨w1.heap.size, 1, none⟩ = some (.int .i64 8) ∧ W.cell? ⟨w1.heap.size, 2, none⟩ = some (.slice (some ⟨h0, 0, none⟩) 2 2) ∧ W.cell? ⟨w1.heap.size, 3, none⟩ = some (.int .i64 0) ∧ W.cell? ⟨w1.heap.size, 4, none⟩ = some (.int .i64 0)) ∧ (W.cell? ⟨w4.heap.size, 0, none⟩ = some (.int .i64 2) ∧ W.cell? ⟨w4.heap.size, 1, none⟩ = some (.int .i64 8) ∧ W.cell? ⟨w4.heap.size, 2, none⟩ = some (.slice (some ⟨h1, 0, none⟩) 2 2) ∧ W.cell? ⟨w4.heap.size, 3, none⟩ = some (.int .i64 0) ∧ W.cell? ⟨w4.heap.size, 4, none⟩ = some (.int .i64 0)) ∧ More wb.heap.size wb W) := Lib.hid fun W h =>
    ⟨(C1.out.keep h C1.out.lt).five, (C7.out.keep h C7.out.lt).five, h⟩
  have T1 : Hid (∀ W, More wb.heap.size wb W → Calls Try.prog 21 #[.agg #[.int .i64 2, .int .i64 8, .slice (some ⟨h0, 0, none⟩) 2 2, .int .i64 0, .int .i64 0]] W fun e w' => ∃ h, e = .returned (.slice (some ⟨h, 0, none⟩) 2 2) ∧ SRd w' w'.heap.size (some ⟨h, 0, none⟩) [ln8, ln8] ∧ Below W.heap.size W w') := Lib.hid fun W h => text_is 2 8 0 0 _ 2 2 (blankC 2 8) W few28 (gr_more GB.out h)
  have T7 : Hid (∀ W, More wb.heap.size wb W → Calls Try.prog 21 #[.agg #[.int .i64 2, .int .i64 8, .slice (some ⟨h1, 0, none⟩) 2 2, .int .i64 0, .int .i64 0]] W fun e w' => ∃ h, e = .returned (.slice (some ⟨h, 0, none⟩) 2 2) ∧ SRd w' w'.heap.size (some ⟨h, 0, none⟩) [ln8, lnX] ∧ Below W.heap.size W w') := Lib.hid fun W h => by
    have := text_is 2 8 0 0 _ 2 2 hC W few_h (gr_more GH.out h)
    rw [hC_is] at this
    exact this
  have P1 : Hid (∀ W, More wb.heap.size wb W → Calls Try.prog 16 #[.agg #[.int .i64 2, .int .i64 8, .slice (some ⟨h0, 0, none⟩) 2 2, .int .i64 0, .int .i64 0], .int .i64 2, .int .i64 0, .int .u8 120] W fun e w' => ∃ h, e = .returned (.agg #[.int .i64 2, .int .i64 8, .slice (some ⟨h, 0, none⟩) 2 2, .int .i64 0, .int .i64 0]) ∧ Gr w' 0 w'.heap.size (some ⟨h, 0, none⟩) 2 2 (blankC 2 8) ∧ Below W.heap.size W w') := Lib.hid fun W h => put20 _ W (gr_more GB.out h)
  have S1 : Hid (∀ W A, More wb.heap.size wb W → Gr W 0 W.heap.size A 2 2 (blankC 2 8) → Calls Try.prog 23 #[.agg #[.int .i64 2, .int .i64 8, .slice A 2 2, .int .i64 0, .int .i64 0], .agg #[.int .i64 2, .int .i64 8, .slice (some ⟨h0, 0, none⟩) 2 2, .int .i64 0, .int .i64 0]] W fun e w' => e = .returned (.bool true) ∧ Below W.heap.size W w') := Lib.hid fun W A h hG => same_is 2 8 0 0 2 8 0 0 A _ 2 2 2 2 _ _ true (sameB_self _ _ _ _ _ _ rfl) W hG (gr_more GB.out h)
  have S2 : Hid (∀ W, More wb.heap.size wb W → Calls Try.prog 23 #[.agg #[.int .i64 2, .int .i64 8, .slice (some ⟨h0, 0, none⟩) 2 2, .int .i64 0, .int .i64 0], .agg #[.int .i64 2, .int .i64 8, .slice (some ⟨h1, 0, none⟩) 2 2, .int .i64 0, .int .i64 0]] W fun e w' => e = .returned (.bool false) ∧ Below W.heap.size W w') := Lib.hid fun W h => same_is 2 8 0 0 2 8 0 0 _ _ 2 2 2 2 _ _ false not_same W (gr_more GB.out h) (gr_more GH.out h)
  have K7 : Hid (∀ W, More wb.heap.size wb W → Calls Try.prog 17 #[.agg #[.int .i64 2, .int .i64 8, .slice (some ⟨h1, 0, none⟩) 2 2, .int .i64 0, .int .i64 0]] W fun e w' => e = .returned (.int .i64 0) ∧ Below W.heap.size W w') := Lib.hid fun W h => check_is 2 8 0 0 _ 2 2 hC true may_h W few_h (gr_more GH.out h)
  have M0 : More wb.heap.size wb wb := Below.refl _ _
  have S0 := SK.out wb M0
  have S0' := SK.out wb.drew (more_drew M0)
  clear C1 C7 GB GH z1 z2 z3 z4 z5 z6 z7 z8
  go_region_held3 (fun W => (W.cell? ⟨w1.heap.size, 0, none⟩ = some (.int .i64 2) ∧ W.cell? ⟨w1.heap.size, 1, none⟩ = some (.int .i64 8) ∧ W.cell? ⟨w1.heap.size, 2, none⟩ = some (.slice (some ⟨h0, 0, none⟩) 2 2) ∧ W.cell? ⟨w1.heap.size, 3, none⟩ = some (.int .i64 0) ∧ W.cell? ⟨w1.heap.size, 4, none⟩ = some (.int .i64 0)) ∧ (W.cell? ⟨w4.heap.size, 0, none⟩ = some (.int .i64 2) ∧ W.cell? ⟨w4.heap.size, 1, none⟩ = some (.int .i64 8) ∧ W.cell? ⟨w4.heap.size, 2, none⟩ = some (.slice (some ⟨h1, 0, none⟩) 2 2) ∧ W.cell? ⟨w4.heap.size, 3, none⟩ = some (.int .i64 0) ∧ W.cell? ⟨w4.heap.size, 4, none⟩ = some (.int .i64 0)) ∧ More wb.heap.size wb W)
    (first | assumption | exact SK.out _ (by assumption) | exact SK.out _ (more_alloc (and_more (by assumption)) _))
    (first
      | (go_at_call 21; have hq := T7; clear T7; (with_reducible refine (hq.out _ (and_more (by assumption))).mono ?_); clear hq; rintro e w' ⟨t7, rfl, hT7, hBt⟩; have hM := more_trans (and_more (by assumption)) hBt)
      | (go_at_call 21; have hq := T1; clear T1; (with_reducible refine (hq.out _ (and_more (by assumption))).mono ?_); clear hq; rintro e w' ⟨t1, rfl, hT1, hBs⟩; have hM := more_trans (and_more (by assumption)) hBs)
      | (go_at_call 20; have hq := hT7; clear hT7; (with_reducible refine (lit_after _ ln8 lnX _ hq).mono ?_); rintro e w' ⟨rfl, hBl⟩; have hM := more_trans (and_more (by assumption)) hBl)
      | (go_at_call 20; have hq := hT7; clear hT7; (with_reducible refine (lit_ahead _ ln8 lnX _ _ hq hBt).mono ?_); rintro e w' ⟨rfl, hBl⟩; have hM := more_trans (and_more (by assumption)) hBl)
      | (go_at_call 20; have hq := hT7; clear hT7; (with_reducible refine (lit_ahead_d _ ln8 lnX _ _ hq hBt).mono ?_); rintro e w' ⟨rfl, hBl⟩; have hM := more_trans (and_more (by assumption)) hBl)
      | (go_at_call 20; have hq := hT1; clear hT1; (with_reducible refine (lit_after _ ln8 ln8 _ hq).mono ?_); rintro e w' ⟨rfl, hBl⟩; have hM := more_trans (and_more (by assumption)) hBl)
      | (go_at_call 20; have hq := hT1; clear hT1; (with_reducible refine (lit_ahead _ ln8 ln8 _ _ hq hBs).mono ?_); rintro e w' ⟨rfl, hBl⟩; have hM := more_trans (and_more (by assumption)) hBl)
      | (go_at_call 16; (with_reducible refine (P1.out _ (and_more (by assumption))).mono ?_); rintro e w' ⟨p1, rfl, hGp, hBp⟩; have hM := more_trans (and_more (by assumption)) hBp)
      | (go_at_call 23; have hq := hGp; clear hGp; (with_reducible refine (S1.out _ _ (and_more (by assumption)) hq).mono ?_); rintro e w' ⟨rfl, hBr⟩; have hM := more_trans (and_more (by assumption)) hBr)
      | (go_at_call 23; (with_reducible refine (S2.out _ (and_more (by assumption))).mono ?_); rintro e w' ⟨rfl, hBq⟩; have hM := more_trans (and_more (by assumption)) hBq)
      | (go_at_call 17; (with_reducible refine (K7.out _ (and_more (by assumption))).mono ?_); rintro e w' ⟨rfl, hBk⟩; have hM := more_trans (and_more (by assumption)) hBk)
      | fail "NONE")
  all_goals
    have hfin := and_more (by assumption)
    go_wp2
    go_ret
    exact ⟨rfl, BB.out.trans (Below.mono hfin BB.out.size)⟩
end Go.Proofs.Ytaapoinggdempaa.grd
