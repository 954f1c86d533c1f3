/- Marks: Set, Get; marks held against marks. -/
import Derived.Test.YtdbeedhedjhamaaMrkShift
import Derived.ChangeKeysEq
import Derived.Laws.StructEq
namespace Go.Proofs.Ytdbeedhedjhamaa.mrk
open Go.RowKit Go.Lib pce sps
set_option linter.unusedVariables false
set_option linter.unusedSimpArgs false
set_option linter.unnecessarySimpa false
set_option linter.unusedSectionVars false

theorem run_buildA (w : World) : (Instr.build 36 #[]).run Try.prog w = .ok (.agg (arr noM)) w := by kernel_rfl
section
variable {ops : Array Oper} {rest : List Oper} {op : Oper} {a : Act} {w : World} {Q : Exit → Act → World → Prop}
theorem wpList_buildA (hgd : op.guard = none) (ho : op.op = .build 36 #[])
    (hk : wpList Try.prog ops Q rest (a.put op.dst (.agg (arr noM))) w) : wpList Try.prog ops Q (op :: rest) a w :=
  wpList_plain hgd fun _ hK => by
    unfold Oper.wp execOp
    simp only [ho, Array.map_empty, Sem.run_bind, run_buildA, Result.andThen_ok]
    exact hK _ _ hk
end
/-- What Set tells. -/
def setM (f : Nat → Int) (b : Nat) (l n : Int) : Nat → Int := if ¬ (97 ≤ b ∧ b ≤ 122) then noM else if l < 1 ∨ n < l then noM else upd f (b - 97) l
def setE (b : Nat) (l n : Int) : Int := if ¬ (97 ≤ b ∧ b ≤ 122) then 202 else if l < 1 ∨ n < l then 200 else 0
def getM (f : Nat → Int) (b : Nat) : Int := if ¬ (97 ≤ b ∧ b ≤ 122) ∨ f (b - 97) < 1 then 0 else f (b - 97)
def getE (f : Nat → Int) (b : Nat) : Int := if ¬ (97 ≤ b ∧ b ≤ 122) ∨ f (b - 97) < 1 then 202 else 0
set_option maxHeartbeats 2000000 in
set_option maxRecDepth 100000 in
theorem set_is (f : Nat → Int) (b : Nat) (l n : Int) (w : World) (g : Nat → Int) (k : Int) (hg : setM f b l n = g) (hk : setE b l n = k) (hb : b < 256) (hl1 : -9223372036854775808 ≤ l) (hl2 : l ≤ 9223372036854775807) (hn1 : -9223372036854775808 ≤ n) (hn2 : n ≤ 9223372036854775807) :
    Calls Try.prog 33 #[.agg (arr f), .int .u8 b, .int .i64 l, .int .i64 n] w fun e w' => e = .returned (.tuple #[.agg (arr g), .int .i64 k]) ∧ Below w.heap.size w w' := by
  have L := Lib.hid (letter_is b hb)
  subst hg hk
  by_cases h1 : 97 ≤ b ∧ b ≤ 122
  · have e1 : decide (97 ≤ b ∧ b ≤ 122) = true := by simpa using h1
    rw [e1] at L
    clear e1
    obtain ⟨i, rfl, hi⟩ : ∃ i, b = 97 + i ∧ i < 26 := ⟨b - 97, by omega, by omega⟩
    have hs : ((97 + i : Nat) : Int) - 97 = (i : Int) := by omega
    have hs2 : 97 + i - 97 = i := by omega
    generalize ((97 + i : Nat) : Int) = z at *
    by_cases h2 : l < 1
    · have e2 : setM f (97 + i) l n = noM := by unfold setM; rw [if_neg (by simpa using h1), if_pos (.inl h2)]
      have e3 : setE (97 + i) l n = 200 := by unfold setE; rw [if_neg (by simpa using h1), if_pos (.inl h2)]
      rw [e2, e3]
      clear e2 e3 h1 hs2
      go_enter Try.func33, Try.ntmps33
      go_wp2_with (first
        | (refine wpList_boxA rfl _ rfl f rfl ?_; intro w1 hz1 hA1 hB1)
        | (refine wpList_allocA rfl rfl ?_; intro w3 hz3 hA3 hB3; have hB := hB1.trans (hB3.mono (by omega)); have hM1 := hA1.all hB3; rw [hz1] at hA3; clear hA1 hB1)
        | (go_at_call 47; refine (L.out _).mono ?_; rintro e w' ⟨rfl, rfl⟩)
        | (refine wpList_buildA rfl rfl ?_)
        | (refine wpList_storeA rfl (.tmp 8) (.tmp 21) rfl _ _ rfl rfl _ hA3 ?_; intro w5 hA5 hO5)
        | fail "NONE")
      refine bodyPost_ret (results_A2 Try.results33 rfl hA5) rfl ⟨rfl, hB.trans (hO5.below (by omega))⟩
    by_cases h3 : n < l
    · have e2 : setM f (97 + i) l n = noM := by unfold setM; rw [if_neg (by simpa using h1), if_pos (.inr h3)]
      have e3 : setE (97 + i) l n = 200 := by unfold setE; rw [if_neg (by simpa using h1), if_pos (.inr h3)]
      rw [e2, e3]
      clear e2 e3 h1 hs2
      go_enter Try.func33, Try.ntmps33
      go_wp2_with (first
        | (refine wpList_boxA rfl _ rfl f rfl ?_; intro w1 hz1 hA1 hB1)
        | (refine wpList_allocA rfl rfl ?_; intro w3 hz3 hA3 hB3; have hB := hB1.trans (hB3.mono (by omega)); have hM1 := hA1.all hB3; rw [hz1] at hA3; clear hA1 hB1)
        | (go_at_call 47; refine (L.out _).mono ?_; rintro e w' ⟨rfl, rfl⟩)
        | (refine wpList_buildA rfl rfl ?_)
        | (refine wpList_storeA rfl (.tmp 8) (.tmp 21) rfl _ _ rfl rfl _ hA3 ?_; intro w5 hA5 hO5)
        | fail "NONE")
      refine bodyPost_ret (results_A2 Try.results33 rfl hA5) rfl ⟨rfl, hB.trans (hO5.below (by omega))⟩
    · have e2 : setM f (97 + i) l n = upd f i l := by unfold setM; rw [if_neg (by simpa using h1), if_neg (by omega), hs2]
      have e3 : setE (97 + i) l n = 0 := by unfold setE; rw [if_neg (by simpa using h1), if_neg (by omega)]
      rw [e2, e3]
      clear e2 e3 h1 hs2
      go_enter Try.func33, Try.ntmps33
      go_wp2_with (first
        | (refine wpList_boxA rfl _ rfl f rfl ?_; intro w1 hz1 hA1 hB1)
        | (refine wpList_allocA rfl rfl ?_; intro w3 hz3 hA3 hB3; have hB := hB1.trans (hB3.mono (by omega)); have hM1 := hA1.all hB3; rw [hz1] at hA3; have hM5 := hM1.set hi l; have hR5 := hA3.far' (p := ⟨w.heap.size, i, none⟩) (by show _ ≠ w.heap.size; omega) (.int .i64 l); have hcell := hM1.cell hi; have hfr := hM1.frozen i; clear hA1 hB1)
        | (go_at_call 47; refine (L.out _).mono ?_; rintro e w' ⟨rfl, rfl⟩)
        | (refine wpList_loadA rfl _ rfl _ rfl _ hM5 ?_)
        | (refine wpList_storeA rfl (.tmp 8) (.tmp 26) rfl _ _ rfl rfl _ hR5 ?_; intro w5 hA5 hO5)
        | fail "NONE")
      refine bodyPost_ret (results_A2 Try.results33 rfl hA5) rfl ⟨rfl, hB.trans ((Only.cell _ _ _ _).below (Nat.le_refl _) |>.trans (hO5.below (by omega)))⟩
  · have e1 : decide (97 ≤ b ∧ b ≤ 122) = false := by simpa using h1
    rw [e1] at L
    have e2 : setM f b l n = noM := by unfold setM; rw [if_pos h1]
    have e3 : setE b l n = 202 := by unfold setE; rw [if_pos h1]
    rw [e2, e3]
    clear e1 e2 e3 h1
    go_enter Try.func33, Try.ntmps33
    go_wp2_with (first
      | (refine wpList_boxA rfl _ rfl f rfl ?_; intro w1 hz1 hA1 hB1)
      | (refine wpList_allocA rfl rfl ?_; intro w3 hz3 hA3 hB3; have hB := hB1.trans (hB3.mono (by omega)); have hM1 := hA1.all hB3; rw [hz1] at hA3; clear hA1 hB1)
      | (go_at_call 47; refine (L.out _).mono ?_; rintro e w' ⟨rfl, rfl⟩)
      | (refine wpList_buildA rfl rfl ?_)
      | (refine wpList_storeA rfl (.tmp 8) (.tmp 13) rfl _ _ rfl rfl _ hA3 ?_; intro w5 hA5 hO5)
      | fail "NONE")
    refine bodyPost_ret (results_A2 Try.results33 rfl hA5) rfl ⟨rfl, hB.trans (hO5.below (by omega))⟩
/-! ### Held against each other -/
theorem infI : (Try.prog.info? 3).map (·.size) = some 1 := by kernel_rfl
theorem run_items (d : Nat) (f : Nat → Int) (w : World) : ∀ (is : List Nat), (∀ i ∈ is, i < 26) → (Op.eqItems (d + 1) 3 1 (arr f) (arr f) is).run Try.prog w = .ok true w
  | [], _ => by simp [Op.eqItems]
  | i :: is, h => by
    have ih := run_items d f w is fun j hj => h j (by simp [hj])
    have ha : (isAgg 3).run Try.prog w = .ok false w := by kernel_rfl
    have hg := arr_get f i (h i (by simp))
    have hp : (Go.part 3 (arr f) (i * 1)).run Try.prog w = .ok (.int .i64 (f i)) w := by simp [Go.part, Sem.run_bind, ha, hg, Result.andThen]
    simp only [Op.eqItems, Sem.run_bind, hp, Result.andThen_ok, run_equalIn_int w d 3 .i64 .i64 _ _ Try.underlying3]
    simpa using ih
theorem run_eqA (f : Nat → Int) (w : World) : (Op.equal 36 (.agg (arr f)) (.agg (arr f))).run Try.prog w = .ok true w := by
  cases hi : Try.prog.info? 3 with
  | none => have := infI; rw [hi] at this; cases this
  | some i =>
    have hs : Try.prog.cellsOf 3 = 1 := by kernel_rfl
    unfold Op.equal Op.maxDepth
    rw [run_equalIn_array w 9999 (arr f) (arr f) und hi, hs]
    exact run_items 9998 f w _ fun j hj => List.mem_range.1 hj
theorem run_guardA (x y : Operand) (f g : Nat → Int) (w : World) : (eqGuard .eql 36 x y (.agg (arr f)) (.agg (arr g))).run Try.prog w = .ok () w := run_eqGuard_agg w .eql 36 x y (arr f) (arr g) (by kernel_rfl)
section
variable {ops : Array Oper} {rest : List Oper} {op : Oper} {a : Act} {w : World} {Q : Exit → Act → World → Prop}
theorem wpList_eqA (hgd : op.guard = none) (x y : Operand) (ty : TypeId) (ho : op.op = .binOp .eql 36 x y ty) (f : Nat → Int) (hx : a.eval x = .agg (arr f)) (hy : a.eval y = .agg (arr f))
    (hk : wpList Try.prog ops Q rest (a.put op.dst (.bool true)) w) : wpList Try.prog ops Q (op :: rest) a w :=
  wpList_plain hgd fun _ hK => by
    unfold Oper.wp execOp
    simp only [ho, hx, hy, Sem.run_bind, run_guardA, binOp, run_eqA, Sem.run_pure, Result.andThen_ok]
    exact hK _ _ hk
theorem wpList_loadM (hw : Region.wanted op (yielded ops a.tmps) = true) (x : Operand) (ho : op.op = .load 36 x) (b : Nat) (hx : a.eval x = .pointer (some ⟨b, 0, none⟩)) (f : Nat → Int) (h : Arr w b f)
    (hk : wpList Try.prog ops Q rest (a.put op.dst (.agg (arr f))) w) : wpList Try.prog ops Q (op :: rest) a w := by
  refine wpList_step fun K hK => ?_
  simp only [hw, if_true]
  unfold Oper.wp execOp
  simp only [ho, hx, Sem.run_bind, Sem.run_pure, Result.andThen_ok, run_loadAtA h]
  exact hK _ _ hk
end
end Go.Proofs.Ytdbeedhedjhamaa.mrk
