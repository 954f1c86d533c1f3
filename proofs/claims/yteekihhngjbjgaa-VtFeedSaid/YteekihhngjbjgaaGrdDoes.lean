/- Grids: the chapter's examples come out. -/
import Derived.Test.YteekihhngjbjgaaGrdPut
import Derived.Test.YteekihhngjbjgaaGrdText
namespace Go.Proofs.Yteekihhngjbjgaa.grd
open Go.RowKit Go.Lib
set_option linter.unusedVariables false
set_option linter.unusedSimpArgs false
set_option linter.unnecessarySimpa false
set_option linter.unusedSectionVars false

def More (p : Nat) (wb W : World) : Prop := Below p wb W
abbrev Zg : Array Value := #[.int .i64 0, .int .i64 0, .slice none 0 0, .int .i64 0, .int .i64 0]
theorem laid {w1 W1 : World} (hBut : But w1.heap.size (w1.alloc (.cells #[.int .i64 0, .int .i64 0, .slice none 0 0, .int .i64 0, .int .i64 0] 34)) W1) : Below w1.heap.size w1 W1 ∧ W1.heap.size = w1.heap.size + 1 :=
  ⟨((Below.refl _ _).alloc (Nat.le_refl _) _).trans (hBut.below (Nat.le_refl _)), by rw [hBut.size]; simp⟩
theorem newZ (w : World) : At (w.alloc (.cells #[.int .i64 0, .int .i64 0, .slice none 0 0, .int .i64 0, .int .i64 0] 34)) w.heap.size 34 #[.int .i64 0, .int .i64 0, .slice none 0 0, .int .i64 0, .int .i64 0] := At.new _ _ _
theorem few28 : few (blankC 2 8) := few_blank 2 8 (by decide) (by decide)
theorem new28 (W : World) : Calls Try.prog 24 #[.int .i64 2, .int .i64 8] W fun e w' => ∃ h, e = .returned (.tuple #[.agg #[.int .i64 2, .int .i64 8, .slice (some ⟨h, 0, none⟩) 2 2, .int .i64 0, .int .i64 0], .int .i64 0]) ∧ Gr w' W.heap.size w'.heap.size (some ⟨h, 0, none⟩) 2 2 (blankC 2 8) ∧ Below W.heap.size W w' :=
  new_yes 2 8 (by decide) (by decide) (by decide) (by decide) W
theorem new18 (W : World) : Calls Try.prog 24 #[.int .i64 1, .int .i64 8] W fun e w' => e = .returned (.tuple #[noGrid, .int .i64 2]) ∧ Below W.heap.size W w' := new_no 1 8 (by decide) W
theorem new2133 (W : World) : Calls Try.prog 24 #[.int .i64 2, .int .i64 133] W fun e w' => e = .returned (.tuple #[noGrid, .int .i64 2]) ∧ Below W.heap.size W w' := new_no 2 133 (by decide) W
def hC : List (List UInt8) := putC ⟨2, 8, blankC 2 8, 0, 0⟩ 1 3 120
theorem hC_is : hC = [[32, 32, 32, 32, 32, 32, 32, 32], [32, 32, 32, 120, 32, 32, 32, 32]] := by decide +kernel
theorem hC_no : putC ⟨2, 8, blankC 2 8, 0, 0⟩ 2 0 120 = blankC 2 8 := by decide +kernel
theorem may_h : may ⟨2, 8, hC, 0, 0⟩ = true := by decide +kernel
theorem few_h : few hC := few_put ⟨2, 8, blankC 2 8, 0, 0⟩ 1 3 120 few28
theorem not_same : sameB 2 8 0 0 2 8 0 0 (blankC 2 8) hC = false := by decide +kernel
theorem put28 (A : Option Addr) (W : World) (h1 : Gr W 0 W.heap.size A 2 2 (blankC 2 8)) :
    Calls Try.prog 22 #[.agg #[.int .i64 2, .int .i64 8, .slice A 2 2, .int .i64 0, .int .i64 0], .int .i64 1, .int .i64 3, .int .u8 120] W fun e w' => ∃ h, e = .returned (.agg #[.int .i64 2, .int .i64 8, .slice (some ⟨h, 0, none⟩) 2 2, .int .i64 0, .int .i64 0]) ∧ Gr w' 0 w'.heap.size (some ⟨h, 0, none⟩) 2 2 hC ∧ Below W.heap.size W w' := by
  refine (put_is 2 8 0 0 A 2 2 (blankC 2 8) 1 3 120 W few28 h1).mono ?_
  rintro e w' ⟨h, rfl, hO, hB⟩
  exact ⟨h, rfl, (hO.rows few_h).mono (Nat.zero_le _) (Nat.le_refl _), hB⟩
theorem put20 (A : Option Addr) (W : World) (h1 : Gr W 0 W.heap.size A 2 2 (blankC 2 8)) :
    Calls Try.prog 22 #[.agg #[.int .i64 2, .int .i64 8, .slice A 2 2, .int .i64 0, .int .i64 0], .int .i64 2, .int .i64 0, .int .u8 120] W fun e w' => ∃ h, e = .returned (.agg #[.int .i64 2, .int .i64 8, .slice (some ⟨h, 0, none⟩) 2 2, .int .i64 0, .int .i64 0]) ∧ Gr w' 0 w'.heap.size (some ⟨h, 0, none⟩) 2 2 (blankC 2 8) ∧ Below W.heap.size W w' := by
  refine (put_is 2 8 0 0 A 2 2 (blankC 2 8) 2 0 120 W few28 h1).mono ?_
  rintro e w' ⟨h, rfl, hO, hB⟩
  rw [hC_no] at hO
  exact ⟨h, rfl, (hO.rows few28).mono (Nat.zero_le _) (Nat.le_refl _), hB⟩
/-- Two lists of two texts that are the same. -/
theorem law_same2 (A A' : Option Addr) (c d : Nat) (x y : ByteArray) (W : World) (h1 : SRd W W.heap.size A [x, y]) (h2 : SRd W W.heap.size A' [x, y]) :
    Calls Try.prog 28 #[.slice A 2 c, .slice A' 2 d] W fun e w' => e = .returned (.bool true) ∧ Below W.heap.size W w' := by
  refine (same12 A A' c d W.heap.size 2 2 [x, y] [x, y] W rfl rfl (by decide) (by decide) h1 h2).mono ?_
  rintro e w' ⟨rfl, q, rfl⟩
  exact ⟨by rw [decide_eq_true rfl], below_drewN (Below.refl _ _) _⟩
theorem srd_lit (W : World) (x y : ByteArray) : SRd (W.alloc (.cells #[.string x, .string y] 9)) (W.alloc (.cells #[.string x, .string y] 9)).heap.size (some ⟨W.heap.size, 0, none⟩) [x, y] := fun _ => by
  refine ⟨W.heap.size, 0, rfl, by simp, fun j hj => ?_⟩
  match j, hj with
  | 0, _ => exact (At.new W 9 #[.string x, .string y]).cell 0
  | 1, _ => exact (At.new W 9 #[.string x, .string y]).cell 1
/-- The text told first, then the list written; or the other way round. -/
theorem lit_after (A : Option Addr) (x y : ByteArray) (W : World) (h1 : SRd W W.heap.size A [x, y]) :
    Calls Try.prog 28 #[.slice A 2 2, .slice (some ⟨W.heap.size, 0, none⟩) 2 2] (W.alloc (.cells #[.string x, .string y] 9)) fun e w' => e = .returned (.bool true) ∧ Below (W.alloc (.cells #[.string x, .string y] 9)).heap.size (W.alloc (.cells #[.string x, .string y] 9)) w' :=
  law_same2 A _ 2 2 x y _ ((h1.alloc (Nat.le_refl _) _).more (by simp)) (srd_lit W x y)
theorem lit_ahead (A : Option Addr) (x y : ByteArray) (W0 W : World) (h1 : SRd W W.heap.size A [x, y]) (hB : Below (W0.alloc (.cells #[.string x, .string y] 9)).heap.size (W0.alloc (.cells #[.string x, .string y] 9)) W) :
    Calls Try.prog 28 #[.slice A 2 2, .slice (some ⟨W0.heap.size, 0, none⟩) 2 2] W fun e w' => e = .returned (.bool true) ∧ Below W.heap.size W w' :=
  law_same2 A _ 2 2 x y _ h1 (((srd_lit W0 x y).below hB).more hB.size)
theorem lit_ahead_d (A : Option Addr) (x y : ByteArray) (W0 W : World) (h1 : SRd W W.heap.size A [x, y]) (hB : Below (W0.alloc (.cells #[.string x, .string y] 9)).drew.heap.size (W0.alloc (.cells #[.string x, .string y] 9)).drew W) :
    Calls Try.prog 28 #[.slice A 2 2, .slice (some ⟨W0.heap.size, 0, none⟩) 2 2] W fun e w' => e = .returned (.bool true) ∧ Below W.heap.size W w' :=
  law_same2 A _ 2 2 x y _ h1 (((srd_lit W0 x y).drew.below hB).more hB.size)
abbrev ln8 : ByteArray := ⟨#[32, 32, 32, 32, 32, 32, 32, 32]⟩
abbrev lnX : ByteArray := ⟨#[32, 32, 32, 120, 32, 32, 32, 32]⟩
theorem and_more {A B : Prop} {n : Nat} {wb W : World} (h : A ∧ B ∧ More n wb W) : More n wb W := h.2.2
theorem more_alloc {wb W : World} (h : More wb.heap.size wb W) (o : Obj) : More wb.heap.size wb (W.alloc o) := Below.alloc h h.size o
theorem more_drew {wb W : World} (h : More wb.heap.size wb W) : More wb.heap.size wb W.drew := below_drew h
theorem more_trans {wb W W' : World} (h : More wb.heap.size wb W) (hB : Below W.heap.size W W') : More wb.heap.size wb W' := Below.trans h (hB.mono h.size)
theorem gr_more {wb W : World} {A : Option Addr} {n c : Nat} {ls : List (List UInt8)} (hG : Gr wb 0 wb.heap.size A n c ls) (h : More wb.heap.size wb W) : Gr W 0 W.heap.size A n c ls := (hG.below h (Nat.le_refl _)).mono (Nat.le_refl _) h.size
end Go.Proofs.Yteekihhngjbjgaa.grd
