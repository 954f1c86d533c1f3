/- Marks: Shift, All, Check. -/
import Derived.Test.YtdbeedhedjhamaaMrkLine
namespace Go.Proofs.Ytdbeedhedjhamaa.mrk
open Go.RowKit Go.Lib pce sps
set_option linter.unusedVariables false
set_option linter.unusedSimpArgs false
set_option linter.unnecessarySimpa false
set_option linter.unusedSectionVars false

/-- Numbers that an int tells. -/
def Ints (f : Nat → Int) : Prop := ∀ i, i < 26 → -9223372036854775808 ≤ f i ∧ f i ≤ 9223372036854775807
theorem Ints.shf {f : Nat → Int} {a d : Int} {k : Nat} (h : Ints f) : Ints (shf f a d k) := fun i hi => ⟨by have : 0 ≤ ln (f i) a d k := ln_lo; unfold mrk.shf; omega, ln_hi (h i hi).2⟩
theorem index_arr (f : Nat → Int) (j : Nat) (hj : j < 26) (W : World) : (Instr.index 36 (.agg (arr f)) (.int .i64 (j : Int))).run Try.prog W = .ok (.int .i64 (f j)) W := by
  have hn : (0 ≤ (j : Int) ∧ (j : Int) < ((26 : Nat) : Int)) := by omega
  have hs := arr_size f
  have hg := arr_get f j hj
  have hz : (Go.sizeOf 3).run Try.prog W = .ok 1 W := by kernel_rfl
  simp [Instr.index, run_underlying und, asIntOf, hn, go_sem, hz]
  rw [if_pos hj, hg]
  rfl
section
variable {ops : Array Oper} {rest : List Oper} {op : Oper} {a : Act} {w : World} {Q : Exit → Act → World → Prop}
theorem wpList_indexA (hgd : op.guard = none) (x i : Operand) (ho : op.op = .index 36 x i) (f : Nat → Int) (hx : a.eval x = .agg (arr f)) (j : Nat) (hi : a.eval i = .int .i64 (j : Int)) (hj : j < 26)
    (hk : wpList Try.prog ops Q rest (a.put op.dst (.int .i64 (f j))) w) : wpList Try.prog ops Q (op :: rest) a w :=
  wpList_plain hgd fun _ hK => by
    unfold Oper.wp execOp
    simp only [ho, hx, hi, Sem.run_bind, Sem.run_pure, Result.andThen_ok, index_arr f j hj]
    exact hK _ _ hk
end
/-- The marks of which the first j are behind the splice. -/
def part (f : Nat → Int) (a d : Int) (k j : Nat) : Nat → Int := fun i => if i < j then ln (f i) a d k else f i
theorem part_zero {f : Nat → Int} {a d : Int} {k : Nat} : part f a d k 0 = f := by funext i; simp [part]
theorem part_all {f : Nat → Int} {a d : Int} {k : Nat} : ∀ i, i < 26 → part f a d k 26 i = shf f a d k i := fun i hi => by simp [part, shf, hi]
theorem part_next {f : Nat → Int} {a d : Int} {k j : Nat} : ∀ i, i < 26 → upd (part f a d k j) j (ln (f j) a d k) i = part f a d k (j + 1) i := fun i hi => by
  unfold upd part
  by_cases h : i = j
  · subst h; simp
  · rw [if_neg h]
    by_cases h2 : i < j
    · rw [if_pos h2, if_pos (by omega)]
    · rw [if_neg h2, if_neg (by omega)]
set_option maxHeartbeats 2000000 in
set_option maxRecDepth 100000 in
theorem shift_is (f : Nat → Int) (a d : Int) (A : Option Addr) (k c : Nat) (w : World) (hf : Ints f) (ha1 : -9223372036854775808 ≤ a) (ha2 : a ≤ 9223372036854775807) (hd1 : -9223372036854775808 ≤ d) (hd2 : d ≤ 9223372036854775807) (hk : k ≤ 100000) :
    Calls Try.prog 52 #[.agg (arr f), .agg #[.int .i64 a, .int .i64 d, .slice A k c]] w fun e w' => e = .returned (.agg (arr (shf f a d k))) ∧ Below w.heap.size w w' := by
  have HF := Lib.hid hf
  have C := Lib.hid (fun (j : Nat) (hj : j < 26) (W : World) => line_is (f j) a d A k c W _ rfl (hf j hj).1 (hf j hj).2 ha1 ha2 hd1 hd2 hk)
  clear hf ha1 ha2 hd1 hd2
  go_enter Try.func52, Try.ntmps52
  go_wp2_with (first
    | (refine wpList_boxA rfl _ rfl f rfl ?_; intro w1 hz1 hA1 hB1)
    | (refine wpList_allocA rfl rfl ?_; intro w3 hz3 hA3 hB3; have hB := hB1.trans (((Below.refl _ w1).alloc (Nat.le_refl _) _).trans (hB3.mono (by simp)) |>.mono (by omega)); have hM1 := (hA1.alloc (.cells #[.int .i64 a, .int .i64 d, .slice A k c] 24)).all hB3; have hS1 := (At.new w1 24 #[.int .i64 a, .int .i64 d, .slice A k c]).same (hB3.block _ (by simp)); clear hA1 hB1)
    | (refine wpList_loadA rfl _ rfl _ rfl _ hM1 ?_)
    | fail "NONE")
  rw [World.size_alloc] at hA3
  rw [hz1] at hA3 hS1
  have HA3 := Lib.hid hA3
  have HB := Lib.hid hB
  have HM1 := Lib.hid hM1
  have HS1 := Lib.hid hS1
  clear hA3 hB hM1 hS1 hB3 hz3
  go_loopg [8] 26 (fun g s8 wr => ∃ j : Nat, j ≤ 26 ∧ 26 - j ≤ g ∧ s8 = .int .i64 j ∧ Hid (Arr wr w.heap.size (part f a d k j)) ∧ Hid (At wr (w.heap.size + 1) 24 #[.int .i64 a, .int .i64 d, .slice A k c]) ∧ Hid (Arr wr (w.heap.size + 1 + 1) noM) ∧ Hid (Below w.heap.size w wr))
  case atStart => exact ⟨0, Nat.zero_le _, by omega, rfl, by rw [part_zero]; exact HM1, HS1, HA3, HB⟩
  case round =>
    obtain ⟨j, hj, hg, rfl, PM, PS, PR, PB⟩ := hrel
    clear HA3 HB HM1 HS1
    have hzr := PR.out.lt
    by_cases hlt : j < 26
    · obtain ⟨c0, c1, c2⟩ := three_at PS.out
      have IX := fun W => index_arr f j hlt W
      have hcell := (PM.out.alloc (.cells #[.int .i64 a, .int .i64 d, .slice A k c] 24)).cell hlt
      have hfr := (PM.out.alloc (.cells #[.int .i64 a, .int .i64 d, .slice A k c] 24)).frozen j
      go_wp2_with (refine wpList_indexA rfl (.tmp 7) (.tmp 8) rfl f rfl j rfl hlt ?_)
      go_at_call 51
      refine (C.out j hlt wr).mono ?_
      rintro e w' ⟨rfl, rfl⟩
      go_wp2
      go_roundg (26 - (j + 1))
      case measure => omega
      case rel => exact ⟨j + 1, by omega, by omega, by go_num, ((PM.out.alloc _).set hlt _).ext part_next, (PS.out.alloc _).far (by show _ ≠ w.heap.size; omega) _, (PR.out.alloc _).far' (by show _ ≠ w.heap.size; omega) _,
        (PB.out.alloc PB.out.size _).trans ((Only.cell _ _ _ _).below (Nat.le_refl _))⟩
    · obtain rfl : j = 26 := by omega
      go_wp2_with (first
        | (refine wpList_loadA rfl _ rfl _ rfl _ PM.out ?_)
        | (refine wpList_storeA rfl (.tmp 4) (.tmp 21) rfl _ _ rfl rfl _ PR.out ?_; intro w5 hA5 hO5)
        | fail "NONE")
      refine bodyPost_ret (results_A1 Try.results52 rfl hA5) rfl ⟨by rw [arr_ext part_all], PB.out.trans (hO5.below (by omega))⟩
end Go.Proofs.Ytdbeedhedjhamaa.mrk
