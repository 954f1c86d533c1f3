/- Splices: Check, against; the law's Same of two. -/
import Derived.Test.YtakckmelojobkaaGreatDoorPceLawPlay
import Derived.Test.YtakckmelojobkaaGreatDoorSplPure
/-! Splices: a splice's three cells in memory: laid down as one, read as one; a block of its own. -/
namespace Go.Proofs.YtakckmelojobkaaGreatDoor.sps
open Go.RowKit Go.Lib pce
set_option linter.unusedVariables false
set_option linter.unusedSimpArgs false
set_option linter.unnecessarySimpa false
set_option linter.unusedSectionVars false

def writeAll (c : Array Value) : Nat → List Value → Array Value
  | _, [] => c
  | o, v :: vs => writeAll (c.setIfInBounds o v) (o + 1) vs
theorem setCells_block (t : TypeId) : ∀ (vs : List Value) (o : Nat) (w : World) (b : Nat) (c : Array Value), w.heap[b]? = some (.cells c t) → w.setCells b o vs = { w with heap := w.heap.setIfInBounds b (.cells (writeAll c o vs) t) }
  | [], o, w, b, c, h => by
    have hb := (Array.getElem?_eq_some_iff.1 h)
    show w = _
    have : w.heap.setIfInBounds b (.cells c t) = w.heap := by
      apply Array.ext_getElem?
      intro k
      rw [Array.getElem?_setIfInBounds]
      by_cases hk : b = k
      · subst hk; simp [hb.1, ← h]
      · simp [hk]
    rw [writeAll, this]
  | v :: vs, o, w, b, c, h => by
    have hb := (Array.getElem?_eq_some_iff.1 h).1
    have e : w.setCell ⟨b, o, none⟩ v = { w with heap := w.heap.setIfInBounds b (.cells (c.setIfInBounds o v) t) } := by
      unfold World.setCell
      congr 1
      apply Array.ext_getElem?
      intro k
      rw [Array.getElem?_modify, Array.getElem?_setIfInBounds]
      by_cases hk : b = k
      · subst hk; rw [if_pos rfl, if_pos rfl, if_pos hb, h]; simp
      · simp [hk]
    show (w.setCell ⟨b, o, none⟩ v).setCells b (o + 1) vs = _
    rw [setCells_block t vs (o + 1) _ b (c.setIfInBounds o v) (by rw [e]; simp [hb]), e]
    simp [writeAll]
theorem infS : (Tryz.prog.info? 24).map (·.size) = some 3 := by kernel_rfl
/-- Of two worlds block b alone may be another one. -/
structure Only (b : Nat) (w w' : World) : Prop where
  os : w'.os = w.os
  tape : w'.tape = w.tape
  output : w'.output = w.output
  size : w'.heap.size = w.heap.size
  block : ∀ k, k ≠ b → w'.heap[k]? = w.heap[k]?
theorem Only.below {b n : Nat} {w w' : World} (h : Only b w w') (hn : n ≤ b) : Below n w w' := ⟨h.os, h.tape, h.output, by rw [h.size]; exact Nat.le_refl _, fun k hk => h.block k (by omega)⟩
theorem storeS {w : World} {b : Nat} {c0 c1 c2 x0 x1 x2 : Value} (h : At w b 24 #[c0, c1, c2]) (h1 : (#[x0, x1, x2] : Array Value).all Value.oneCell' = true) :
    ∃ w', (Instr.storeAt 24 (.pointer (some ⟨b, 0, none⟩)) (.agg #[x0, x1, x2])).run Tryz.prog w = .ok () w' ∧ At w' b 24 #[x0, x1, x2] ∧ Only b w w' := by
  have e : w.setCells b 0 [x0, x1, x2] = { w with heap := w.heap.setIfInBounds b (.cells #[x0, x1, x2] 24) } := setCells_block 24 _ 0 w b _ h
  have hlt := At.lt h
  refine ⟨_, run_storeAt_mid w b 0 24 #[x0, x1, x2] (fun j hj => ?_) infS h1, ?_, ?_⟩
  · have hj3 : j < 3 := hj
    rw [Nat.zero_add, h.cell j]
    exact ⟨by rw [Array.getElem?_eq_getElem hj3]; rfl, At.frozen h _⟩
  · show At (w.setCells b 0 [x0, x1, x2]) b _ _
    rw [e]; unfold At; simp [hlt]
  · show Only b w (w.setCells b 0 [x0, x1, x2])
    rw [e]
    refine ⟨rfl, rfl, rfl, by simp, fun k hk => ?_⟩
    show (w.heap.setIfInBounds b _)[k]? = _
    rw [Array.getElem?_setIfInBounds_ne (by omega)]
/-- Laid down in the block that was made last: as if it had been made so. -/
theorem storeL (w : World) (c0 c1 c2 x0 x1 x2 : Value) (h1 : (#[x0, x1, x2] : Array Value).all Value.oneCell' = true) :
    (Instr.storeAt 24 (.pointer (some ⟨w.heap.size, 0, none⟩)) (.agg #[x0, x1, x2])).run Tryz.prog (w.alloc (.cells #[c0, c1, c2] 24)) = .ok () (w.alloc (.cells #[x0, x1, x2] 24)) := by
  have hA := At.new w 24 #[c0, c1, c2]
  have e : (w.alloc (.cells #[c0, c1, c2] 24)).setCells w.heap.size 0 [x0, x1, x2] = w.alloc (.cells #[x0, x1, x2] 24) := by
    rw [setCells_block 24 _ 0 _ _ _ hA]
    unfold World.alloc
    congr 1
    apply Array.ext_getElem?
    intro k
    simp only [writeAll]
    rw [Array.getElem?_setIfInBounds]
    by_cases hk : w.heap.size = k
    · subst hk; simp
    · rw [if_neg hk, Array.getElem?_push, Array.getElem?_push, if_neg (by omega), if_neg (by omega)]
  have := run_storeAt_mid (P := Tryz.prog) (w.alloc (.cells #[c0, c1, c2] 24)) w.heap.size 0 24 #[x0, x1, x2] (fun j hj => by
    have hj3 : j < 3 := hj
    rw [Nat.zero_add, hA.cell j]
    exact ⟨by rw [Array.getElem?_eq_getElem hj3]; rfl, At.frozen hA _⟩) infS h1
  rw [this]
  show Result.ok () ((w.alloc (.cells #[c0, c1, c2] 24)).setCells w.heap.size 0 [x0, x1, x2]) = _
  rw [e]
section
variable {ops : Array Oper} {rest : List Oper} {op : Oper} {a : Act} {w : World} {Q : Exit → Act → World → Prop} {K : Act → World → Prop}
theorem wpList_storeL (hgd : op.guard = none) (x y : Operand) (ho : op.op = .store 24 x y) (w0 : World) (c0 c1 c2 : Value) (hw : w = w0.alloc (.cells #[c0, c1, c2] 24)) (x0 x1 : Int) (A : Option Addr) (n c : Nat) (hx : a.eval x = .pointer (some ⟨w0.heap.size, 0, none⟩)) (hy : a.eval y = .agg #[.int .i64 x0, .int .i64 x1, .slice A n c])
    (hk : wpList Tryz.prog ops Q rest (a.put op.dst undef) (w0.alloc (.cells #[.int .i64 x0, .int .i64 x1, .slice A n c] 24))) : wpList Tryz.prog ops Q (op :: rest) a w :=
  wpList_plain hgd fun _ hK => by
    unfold Oper.wp execOp
    simp only [ho, hx, hy, hw, Sem.run_bind, Sem.run_pure, Result.andThen_ok, storeL w0 c0 c1 c2 (.int .i64 x0) (.int .i64 x1) (.slice A n c) (by simp [Value.oneCell'])]
    exact hK _ _ hk
theorem wpList_storeS (hgd : op.guard = none) (x y : Operand) (ho : op.op = .store 24 x y) (b : Nat) (x0 x1 : Int) (A : Option Addr) (n c : Nat) (hx : a.eval x = .pointer (some ⟨b, 0, none⟩)) (hy : a.eval y = .agg #[.int .i64 x0, .int .i64 x1, .slice A n c]) (c0 c1 c2 : Value) (h : At w b 24 #[c0, c1, c2])
    (hk : ∀ w', At w' b 24 #[.int .i64 x0, .int .i64 x1, .slice A n c] → Only b w w' → wpList Tryz.prog ops Q rest (a.put op.dst undef) w') : wpList Tryz.prog ops Q (op :: rest) a w :=
  wpList_plain hgd fun _ hK => by
    obtain ⟨w', e, h1, h2⟩ := storeS (x0 := .int .i64 x0) (x1 := .int .i64 x1) (x2 := .slice A n c) h (by simp [Value.oneCell'])
    unfold Oper.wp execOp
    simp only [ho, hx, hy, Sem.run_bind, Sem.run_pure, Result.andThen_ok, e]
    exact hK _ _ (hk _ h1 h2)
theorem wp_storeS (x y : Operand) (ho : op.op = .store 24 x y) (b : Nat) (x0 x1 : Int) (A : Option Addr) (n c : Nat) (hx : a.eval x = .pointer (some ⟨b, 0, none⟩)) (hy : a.eval y = .agg #[.int .i64 x0, .int .i64 x1, .slice A n c]) (c0 c1 c2 : Value) (h : At w b 24 #[c0, c1, c2])
    (hk : ∀ w', At w' b 24 #[.int .i64 x0, .int .i64 x1, .slice A n c] → Only b w w' → K (a.put op.dst undef) w') : Oper.wp Tryz.prog op a w K Q := by
  obtain ⟨w', e, h1, h2⟩ := storeS (x0 := .int .i64 x0) (x1 := .int .i64 x1) (x2 := .slice A n c) h (by simp [Value.oneCell'])
  unfold Oper.wp execOp
  simp only [ho, hx, hy, Sem.run_bind, Sem.run_pure, Result.andThen_ok, e]
  exact hk _ h1 h2
end
/-- Three cells, one by one. -/
theorem three_at {w : World} {b : Nat} {t : TypeId} {x0 x1 x2 : Value} (h : At w b t #[x0, x1, x2]) : w.cell? ⟨b, 0, none⟩ = some x0 ∧ w.cell? ⟨b, 1, none⟩ = some x1 ∧ w.cell? ⟨b, 2, none⟩ = some x2 := ⟨h.cell 0, h.cell 1, h.cell 2⟩
end Go.Proofs.YtakckmelojobkaaGreatDoor.sps

/-! Splices: Check, against; the law's Same of two. -/
namespace Go.Proofs.YtakckmelojobkaaGreatDoor.sps
open Go.RowKit Go.Lib pce
set_option linter.unusedVariables false
set_option linter.unusedSimpArgs false
set_option linter.unnecessarySimpa false
set_option linter.unusedSectionVars false

set_option maxHeartbeats 1000000 in
set_option maxRecDepth 100000 in
/-- Check: the error as a number. -/
theorem check_is (a d : Int) (A : Option Addr) (n c : Nat) (ins : List ByteArray) (w : World) (k : Int) (hk : chkS a d ins = k) (ha1 : -9223372036854775808 ≤ a) (ha2 : a ≤ 9223372036854775807) (hd1 : -9223372036854775808 ≤ d) (hd2 : d ≤ 9223372036854775807)
    (hn : n = ins.length) (hb : n ≤ 100000) (h : SRd w w.heap.size A ins) :
    Calls Tryz.prog 12 #[.agg #[.int .i64 a, .int .i64 d, .slice A n c]] w fun e w' => e = .returned (.int .i64 k) ∧ Below w.heap.size w w' := by
  have C := Lib.hid (fun (W : World) (q : Int) (hq : chk ins = q) (hW : Below w.heap.size w W) => check18_b A c n ins W q hn hb hq ((h.below hW).more hW.size))
  have HK := Lib.hid hk
  clear hk hn h
  by_cases h1 : a < 0
  · obtain rfl : k = 2 := by have := HK.out; unfold chkS at this; rw [if_pos (.inl h1)] at this; exact this.symm
    go_enter Tryz.func12, Tryz.ntmps12
    go_wp2
    go_ret
    exact ⟨rfl, (Below.refl _ _).alloc (Nat.le_refl _) _⟩
  by_cases h2 : d < 0
  · obtain rfl : k = 2 := by have := HK.out; unfold chkS at this; rw [if_pos (.inr h2)] at this; exact this.symm
    go_enter Tryz.func12, Tryz.ntmps12
    go_wp2
    go_ret
    exact ⟨rfl, (Below.refl _ _).alloc (Nat.le_refl _) _⟩
  have HC : Hid (chk ins = k) := Lib.hid (by have := HK.out; unfold chkS at this; rw [if_neg (by omega)] at this; exact this)
  go_enter Tryz.func12, Tryz.ntmps12
  go_wp2_with fail
  go_at_call 24
  have hB0 : Below w.heap.size w (w.alloc (.cells #[.int .i64 a, .int .i64 d, .slice A n c] 24)) := (Below.refl _ _).alloc (Nat.le_refl _) _
  refine (C.out _ k HC.out hB0).mono ?_
  rintro e w1 ⟨rfl, hB1⟩
  have HB := Lib.hid (hB0.trans (hB1.mono (by simp)))
  clear hB1
  go_wp2
  go_ret
  exact ⟨rfl, HB.out⟩

set_option maxHeartbeats 1000000 in
set_option maxRecDepth 100000 in
/-- against: the error of a splice of so many lines. -/
theorem against_is (L : Nat) (a d : Int) (A : Option Addr) (n c : Nat) (ins : List ByteArray) (w : World) (k : Int) (hk : stpE L a d ins = k) (hL : L ≤ 2000) (ha1 : -9223372036854775808 ≤ a) (ha2 : a ≤ 9223372036854775807) (hd1 : -9223372036854775808 ≤ d) (hd2 : d ≤ 9223372036854775807)
    (hn : n = ins.length) (hb : n ≤ 100000) (h : SRd w w.heap.size A ins) :
    Calls Tryz.prog 44 #[.int .i64 L, .agg #[.int .i64 a, .int .i64 d, .slice A n c]] w fun e w' => e = .returned (.int .i64 k) ∧ Below w.heap.size w w' := by
  obtain ⟨q, hq⟩ : ∃ q, chkS a d ins = q := ⟨_, rfl⟩
  have hB0 : Below w.heap.size w (w.alloc (.cells #[.int .i64 a, .int .i64 d, .slice A n c] 24)) := (Below.refl _ _).alloc (Nat.le_refl _) _
  have C := Lib.hid (check_is a d A n c ins (w.alloc (.cells #[.int .i64 a, .int .i64 d, .slice A n c] 24)) q hq ha1 ha2 hd1 hd2 hn hb ((h.below hB0).more (by simp)))
  have HB0 := Lib.hid hB0
  have HA := Lib.hid (At.new w 24 #[.int .i64 a, .int .i64 d, .slice A n c])
  have HN := Lib.hid hn
  have HK := Lib.hid hk
  have HQ := Lib.hid hq
  unfold stpE at hk
  rw [hq, ← hn] at hk
  clear hn h hq hB0
  by_cases hq0 : q = 0
  · subst hq0
    rw [if_neg (by simp)] at hk
    obtain ⟨g1, g2, _⟩ := chkS_zero.1 HQ.out
    by_cases h3 : (L : Int) - a < d
    · obtain rfl : k = 2 := by rw [if_pos h3] at hk; exact hk.symm
      clear hk
      go_enter Tryz.func44, Tryz.ntmps44
      go_wp2_with fail
      go_at_call 12
      refine C.out.mono ?_
      rintro e w1 ⟨rfl, hB1⟩
      have HB := Lib.hid (HB0.out.trans (hB1.mono (by simp)))
      obtain ⟨c0, c1, c2⟩ := three_at (HA.out.same (hB1.block _ (by simp)))
      clear hB1 HA HB0 C
      go_wp2
      go_ret
      exact ⟨rfl, HB.out⟩
    rw [if_neg h3] at hk
    have hd3 : d ≤ 2000 := by omega
    by_cases h5 : 2000 < (L : Int) - d + n
    all_goals
      first | rw [if_pos h5] at hk | rw [if_neg h5] at hk
      subst hk
      go_enter Tryz.func44, Tryz.ntmps44
      go_wp2_with fail
      go_at_call 12
      refine C.out.mono ?_
      rintro e w1 ⟨rfl, hB1⟩
      have HB := Lib.hid (HB0.out.trans (hB1.mono (by simp)))
      obtain ⟨c0, c1, c2⟩ := three_at (HA.out.same (hB1.block _ (by simp)))
      clear hB1 HA HB0 C
      go_wp2
      go_ret
      exact ⟨rfl, HB.out⟩
  · obtain rfl : k = q := by rw [if_pos hq0] at hk; exact hk.symm
    have hqb : (k == 0) = false := by simpa using hq0
    have hqn : (k != 0) = true := by rw [bne, hqb]; rfl
    clear hk
    go_enter Tryz.func44, Tryz.ntmps44
    go_wp2_with fail
    go_at_call 12
    refine C.out.mono ?_
    rintro e w1 ⟨rfl, hB1⟩
    have HB := Lib.hid (HB0.out.trans (hB1.mono (by simp)))
    clear hB1 HA HB0 C
    go_wp2
    go_ret
    exact ⟨rfl, HB.out⟩

set_option maxHeartbeats 2000000 in
set_option maxRecDepth 100000 in
/-- The law's Same. -/
theorem lawSame_is (a d a' d' : Int) (A A' : Option Addr) (n c n' c' : Nat) (xs ys : List ByteArray) (b : Bool) (w : World) (hn : n = xs.length) (hm : n' = ys.length) (hb1 : n ≤ 100000) (hb2 : n' ≤ 100000) (h1 : SRd w w.heap.size A xs) (h2 : SRd w w.heap.size A' ys)
    (hr : decide (a = a' ∧ d = d' ∧ xs = ys) = b) :
    Calls Tryz.prog 9 #[.agg #[.int .i64 a, .int .i64 d, .slice A n c], .agg #[.int .i64 a', .int .i64 d', .slice A' n' c']] w fun e w' => e = .returned (.bool b) ∧ Below w.heap.size w w' := by
  obtain ⟨q, hq⟩ : ∃ q, decide (xs = ys) = q := ⟨_, rfl⟩
  have HQ := Lib.hid hq
  have HR := Lib.hid hr
  have C := Lib.hid (fun (W : World) (hW : Below w.heap.size w W) => same12_b A A' c c' n n' xs ys W q hn hm hb1 hb2 hq ((h1.below hW).more hW.size) ((h2.below hW).more hW.size))
  clear hn hm h1 h2 hq hr
  have hB0 : Below w.heap.size w ((w.alloc (.cells #[.int .i64 a, .int .i64 d, .slice A n c] 24)).alloc (.cells #[.int .i64 a', .int .i64 d', .slice A' n' c'] 24)) := ((Below.refl _ _).alloc (Nat.le_refl _) _).alloc (by simp) _
  have HB0 := Lib.hid hB0
  clear hB0
  by_cases e1 : a = a'
  · by_cases e2 : d = d'
    · obtain rfl : q = b := by
        have h := HR.out
        rw [← HQ.out, ← h]
        simp [e1, e2]
      subst e1 e2
      go_enter Tryz.func9, Tryz.ntmps9
      go_wp2_with fail
      go_at_call 21
      refine (C.out _ HB0.out).mono ?_
      rintro e w1 ⟨rfl, hB1⟩
      have HB := Lib.hid (HB0.out.trans (hB1.mono (by simp <;> omega)))
      clear hB1
      go_wp2
      go_ret
      exact ⟨rfl, HB.out⟩
    · obtain rfl : b = false := by rw [← HR.out]; simp [e2]
      have k1 : (a == a') = true := by simpa using e1
      have k2 : (d == d') = false := by simpa using e2
      clear e1 e2
      go_enter Tryz.func9, Tryz.ntmps9
      go_wp2
      go_ret
      exact ⟨rfl, HB0.out⟩
  · obtain rfl : b = false := by rw [← HR.out]; simp [e1]
    have k1 : (a == a') = false := by simpa using e1
    clear e1
    go_enter Tryz.func9, Tryz.ntmps9
    go_wp2
    go_ret
    exact ⟨rfl, HB0.out⟩
end Go.Proofs.YtakckmelojobkaaGreatDoor.sps
