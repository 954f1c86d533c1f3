/- Splices: splice (of lines that may be), Apply, of the program. -/
import Derived.Test.YtmknbakfjhjfmaaGreatDoorPceDoes
import Derived.Deep.MidRow
import Derived.OwnWalk
import Derived.Laws.NewBlocks
import Derived.Test.YtmknbakfjhjfmaaGreatDoorSplPure
import Derived.StillTailTactics
/-! Splices: a splice's three cells in memory: laid down as one, read as one; a block of its own. -/
namespace Go.Proofs.YtmknbakfjhjfmaaGreatDoor.sps
open Go.RowKit Go.Lib pce
set_option linter.unusedVariables false
set_option linter.unusedSimpArgs false
set_option linter.unnecessarySimpa false
set_option linter.unusedSectionVars false

def writeAll (c : Array Value) : Nat → List Value → Array Value
  | _, [] => c
  | o, v :: vs => writeAll (c.setIfInBounds o v) (o + 1) vs
theorem setCells_block (t : TypeId) : ∀ (vs : List Value) (o : Nat) (w : World) (b : Nat) (c : Array Value), w.heap[b]? = some (.cells c t) → w.setCells b o vs = { w with heap := w.heap.setIfInBounds b (.cells (writeAll c o vs) t) }
  | [], o, w, b, c, h => by
    have hb := (Array.getElem?_eq_some_iff.1 h)
    show w = _
    have : w.heap.setIfInBounds b (.cells c t) = w.heap := by
      apply Array.ext_getElem?
      intro k
      rw [Array.getElem?_setIfInBounds]
      by_cases hk : b = k
      · subst hk; simp [hb.1, ← h]
      · simp [hk]
    rw [writeAll, this]
  | v :: vs, o, w, b, c, h => by
    have hb := (Array.getElem?_eq_some_iff.1 h).1
    have e : w.setCell ⟨b, o, none⟩ v = { w with heap := w.heap.setIfInBounds b (.cells (c.setIfInBounds o v) t) } := by
      unfold World.setCell
      congr 1
      apply Array.ext_getElem?
      intro k
      rw [Array.getElem?_modify, Array.getElem?_setIfInBounds]
      by_cases hk : b = k
      · subst hk; rw [if_pos rfl, if_pos rfl, if_pos hb, h]; simp
      · simp [hk]
    show (w.setCell ⟨b, o, none⟩ v).setCells b (o + 1) vs = _
    rw [setCells_block t vs (o + 1) _ b (c.setIfInBounds o v) (by rw [e]; simp [hb]), e]
    simp [writeAll]
theorem infS : (Tryz.prog.info? 46).map (·.size) = some 3 := by kernel_rfl
/-- Of two worlds block b alone may be another one. -/
structure Only (b : Nat) (w w' : World) : Prop where
  os : w'.os = w.os
  tape : w'.tape = w.tape
  output : w'.output = w.output
  size : w'.heap.size = w.heap.size
  block : ∀ k, k ≠ b → w'.heap[k]? = w.heap[k]?
theorem Only.below {b n : Nat} {w w' : World} (h : Only b w w') (hn : n ≤ b) : Below n w w' := ⟨h.os, h.tape, h.output, by rw [h.size]; exact Nat.le_refl _, fun k hk => h.block k (by omega)⟩
theorem storeS {w : World} {b : Nat} {c0 c1 c2 x0 x1 x2 : Value} (h : At w b 46 #[c0, c1, c2]) (h1 : (#[x0, x1, x2] : Array Value).all Value.oneCell' = true) :
    ∃ w', (Instr.storeAt 46 (.pointer (some ⟨b, 0, none⟩)) (.agg #[x0, x1, x2])).run Tryz.prog w = .ok () w' ∧ At w' b 46 #[x0, x1, x2] ∧ Only b w w' := by
  have e : w.setCells b 0 [x0, x1, x2] = { w with heap := w.heap.setIfInBounds b (.cells #[x0, x1, x2] 46) } := setCells_block 46 _ 0 w b _ h
  have hlt := At.lt h
  refine ⟨_, run_storeAt_mid w b 0 46 #[x0, x1, x2] (fun j hj => ?_) infS h1, ?_, ?_⟩
  · have hj3 : j < 3 := hj
    rw [Nat.zero_add, h.cell j]
    exact ⟨by rw [Array.getElem?_eq_getElem hj3]; rfl, At.frozen h _⟩
  · show At (w.setCells b 0 [x0, x1, x2]) b _ _
    rw [e]; unfold At; simp [hlt]
  · show Only b w (w.setCells b 0 [x0, x1, x2])
    rw [e]
    refine ⟨rfl, rfl, rfl, by simp, fun k hk => ?_⟩
    show (w.heap.setIfInBounds b _)[k]? = _
    rw [Array.getElem?_setIfInBounds_ne (by omega)]
/-- Laid down in the block that was made last: as if it had been made so. -/
theorem storeL (w : World) (c0 c1 c2 x0 x1 x2 : Value) (h1 : (#[x0, x1, x2] : Array Value).all Value.oneCell' = true) :
    (Instr.storeAt 46 (.pointer (some ⟨w.heap.size, 0, none⟩)) (.agg #[x0, x1, x2])).run Tryz.prog (w.alloc (.cells #[c0, c1, c2] 46)) = .ok () (w.alloc (.cells #[x0, x1, x2] 46)) := by
  have hA := At.new w 46 #[c0, c1, c2]
  have e : (w.alloc (.cells #[c0, c1, c2] 46)).setCells w.heap.size 0 [x0, x1, x2] = w.alloc (.cells #[x0, x1, x2] 46) := by
    rw [setCells_block 46 _ 0 _ _ _ hA]
    unfold World.alloc
    congr 1
    apply Array.ext_getElem?
    intro k
    simp only [writeAll]
    rw [Array.getElem?_setIfInBounds]
    by_cases hk : w.heap.size = k
    · subst hk; simp
    · rw [if_neg hk, Array.getElem?_push, Array.getElem?_push, if_neg (by omega), if_neg (by omega)]
  have := run_storeAt_mid (P := Tryz.prog) (w.alloc (.cells #[c0, c1, c2] 46)) w.heap.size 0 46 #[x0, x1, x2] (fun j hj => by
    have hj3 : j < 3 := hj
    rw [Nat.zero_add, hA.cell j]
    exact ⟨by rw [Array.getElem?_eq_getElem hj3]; rfl, At.frozen hA _⟩) infS h1
  rw [this]
  show Result.ok () ((w.alloc (.cells #[c0, c1, c2] 46)).setCells w.heap.size 0 [x0, x1, x2]) = _
  rw [e]
section
variable {ops : Array Oper} {rest : List Oper} {op : Oper} {a : Act} {w : World} {Q : Exit → Act → World → Prop} {K : Act → World → Prop}
theorem wpList_storeL (hgd : op.guard = none) (x y : Operand) (ho : op.op = .store 46 x y) (w0 : World) (c0 c1 c2 : Value) (hw : w = w0.alloc (.cells #[c0, c1, c2] 46)) (x0 x1 : Int) (A : Option Addr) (n c : Nat) (hx : a.eval x = .pointer (some ⟨w0.heap.size, 0, none⟩)) (hy : a.eval y = .agg #[.int .i64 x0, .int .i64 x1, .slice A n c])
    (hk : wpList Tryz.prog ops Q rest (a.put op.dst undef) (w0.alloc (.cells #[.int .i64 x0, .int .i64 x1, .slice A n c] 46))) : wpList Tryz.prog ops Q (op :: rest) a w :=
  wpList_plain hgd fun _ hK => by
    unfold Oper.wp execOp
    simp only [ho, hx, hy, hw, Sem.run_bind, Sem.run_pure, Result.andThen_ok, storeL w0 c0 c1 c2 (.int .i64 x0) (.int .i64 x1) (.slice A n c) (by simp [Value.oneCell'])]
    exact hK _ _ hk
theorem wpList_storeS (hgd : op.guard = none) (x y : Operand) (ho : op.op = .store 46 x y) (b : Nat) (x0 x1 : Int) (A : Option Addr) (n c : Nat) (hx : a.eval x = .pointer (some ⟨b, 0, none⟩)) (hy : a.eval y = .agg #[.int .i64 x0, .int .i64 x1, .slice A n c]) (c0 c1 c2 : Value) (h : At w b 46 #[c0, c1, c2])
    (hk : ∀ w', At w' b 46 #[.int .i64 x0, .int .i64 x1, .slice A n c] → Only b w w' → wpList Tryz.prog ops Q rest (a.put op.dst undef) w') : wpList Tryz.prog ops Q (op :: rest) a w :=
  wpList_plain hgd fun _ hK => by
    obtain ⟨w', e, h1, h2⟩ := storeS (x0 := .int .i64 x0) (x1 := .int .i64 x1) (x2 := .slice A n c) h (by simp [Value.oneCell'])
    unfold Oper.wp execOp
    simp only [ho, hx, hy, Sem.run_bind, Sem.run_pure, Result.andThen_ok, e]
    exact hK _ _ (hk _ h1 h2)
theorem wp_storeS (x y : Operand) (ho : op.op = .store 46 x y) (b : Nat) (x0 x1 : Int) (A : Option Addr) (n c : Nat) (hx : a.eval x = .pointer (some ⟨b, 0, none⟩)) (hy : a.eval y = .agg #[.int .i64 x0, .int .i64 x1, .slice A n c]) (c0 c1 c2 : Value) (h : At w b 46 #[c0, c1, c2])
    (hk : ∀ w', At w' b 46 #[.int .i64 x0, .int .i64 x1, .slice A n c] → Only b w w' → K (a.put op.dst undef) w') : Oper.wp Tryz.prog op a w K Q := by
  obtain ⟨w', e, h1, h2⟩ := storeS (x0 := .int .i64 x0) (x1 := .int .i64 x1) (x2 := .slice A n c) h (by simp [Value.oneCell'])
  unfold Oper.wp execOp
  simp only [ho, hx, hy, Sem.run_bind, Sem.run_pure, Result.andThen_ok, e]
  exact hk _ h1 h2
end
/-- Three cells, one by one. -/
theorem three_at {w : World} {b : Nat} {t : TypeId} {x0 x1 x2 : Value} (h : At w b t #[x0, x1, x2]) : w.cell? ⟨b, 0, none⟩ = some x0 ∧ w.cell? ⟨b, 1, none⟩ = some x1 ∧ w.cell? ⟨b, 2, none⟩ = some x2 := ⟨h.cell 0, h.cell 1, h.cell 2⟩
end Go.Proofs.YtmknbakfjhjfmaaGreatDoor.sps

/-! Splices: Check, against; the law's Same of two. -/
namespace Go.Proofs.YtmknbakfjhjfmaaGreatDoor.sps
open Go.RowKit Go.Lib pce
set_option linter.unusedVariables false
set_option linter.unusedSimpArgs false
set_option linter.unnecessarySimpa false
set_option linter.unusedSectionVars false

set_option maxHeartbeats 1000000 in
set_option maxRecDepth 100000 in
/-- Check: the error as a number. -/
theorem check_is (a d : Int) (A : Option Addr) (n c : Nat) (ins : List ByteArray) (w : World) (k : Int) (hk : chkS a d ins = k) (ha1 : -9223372036854775808 ≤ a) (ha2 : a ≤ 9223372036854775807) (hd1 : -9223372036854775808 ≤ d) (hd2 : d ≤ 9223372036854775807)
    (hn : n = ins.length) (hb : n ≤ 100000) (h : SRd w w.heap.size A ins) :
    Calls Tryz.prog 61 #[.agg #[.int .i64 a, .int .i64 d, .slice A n c]] w fun e w' => e = .returned (.int .i64 k) ∧ Below w.heap.size w w' := by
  have C := Lib.hid (fun (W : World) (q : Int) (hq : chk ins = q) (hW : Below w.heap.size w W) => check18_b A c n ins W q hn hb hq ((h.below hW).more hW.size))
  have HK := Lib.hid hk
  clear hk hn h
  by_cases h1 : a < 0
  · obtain rfl : k = 2 := by have := HK.out; unfold chkS at this; rw [if_pos (.inl h1)] at this; exact this.symm
    go_enter Tryz.func61, Tryz.ntmps61
    go_wp2
    go_ret
    exact ⟨rfl, (Below.refl _ _).alloc (Nat.le_refl _) _⟩
  by_cases h2 : d < 0
  · obtain rfl : k = 2 := by have := HK.out; unfold chkS at this; rw [if_pos (.inr h2)] at this; exact this.symm
    go_enter Tryz.func61, Tryz.ntmps61
    go_wp2
    go_ret
    exact ⟨rfl, (Below.refl _ _).alloc (Nat.le_refl _) _⟩
  have HC : Hid (chk ins = k) := Lib.hid (by have := HK.out; unfold chkS at this; rw [if_neg (by omega)] at this; exact this)
  go_enter Tryz.func61, Tryz.ntmps61
  go_wp2_with fail
  go_at_call 86
  have hB0 : Below w.heap.size w (w.alloc (.cells #[.int .i64 a, .int .i64 d, .slice A n c] 46)) := (Below.refl _ _).alloc (Nat.le_refl _) _
  refine (C.out _ k HC.out hB0).mono ?_
  rintro e w1 ⟨rfl, hB1⟩
  have HB := Lib.hid (hB0.trans (hB1.mono (by simp)))
  clear hB1
  go_wp2
  go_ret
  exact ⟨rfl, HB.out⟩

set_option maxHeartbeats 1000000 in
set_option maxRecDepth 100000 in
/-- against: the error of a splice of so many lines. -/
theorem against_is (L : Nat) (a d : Int) (A : Option Addr) (n c : Nat) (ins : List ByteArray) (w : World) (k : Int) (hk : stpE L a d ins = k) (hL : L ≤ 2000) (ha1 : -9223372036854775808 ≤ a) (ha2 : a ≤ 9223372036854775807) (hd1 : -9223372036854775808 ≤ d) (hd2 : d ≤ 9223372036854775807)
    (hn : n = ins.length) (hb : n ≤ 100000) (h : SRd w w.heap.size A ins) :
    Calls Tryz.prog 127 #[.int .i64 L, .agg #[.int .i64 a, .int .i64 d, .slice A n c]] w fun e w' => e = .returned (.int .i64 k) ∧ Below w.heap.size w w' := by
  obtain ⟨q, hq⟩ : ∃ q, chkS a d ins = q := ⟨_, rfl⟩
  have hB0 : Below w.heap.size w (w.alloc (.cells #[.int .i64 a, .int .i64 d, .slice A n c] 46)) := (Below.refl _ _).alloc (Nat.le_refl _) _
  have C := Lib.hid (check_is a d A n c ins (w.alloc (.cells #[.int .i64 a, .int .i64 d, .slice A n c] 46)) q hq ha1 ha2 hd1 hd2 hn hb ((h.below hB0).more (by simp)))
  have HB0 := Lib.hid hB0
  have HA := Lib.hid (At.new w 46 #[.int .i64 a, .int .i64 d, .slice A n c])
  have HN := Lib.hid hn
  have HK := Lib.hid hk
  have HQ := Lib.hid hq
  unfold stpE at hk
  rw [hq, ← hn] at hk
  clear hn h hq hB0
  by_cases hq0 : q = 0
  · subst hq0
    rw [if_neg (by simp)] at hk
    obtain ⟨g1, g2, _⟩ := chkS_zero.1 HQ.out
    by_cases h3 : (L : Int) - a < d
    · obtain rfl : k = 2 := by rw [if_pos h3] at hk; exact hk.symm
      clear hk
      go_enter Tryz.func127, Tryz.ntmps127
      go_wp2_with fail
      go_at_call 61
      refine C.out.mono ?_
      rintro e w1 ⟨rfl, hB1⟩
      have HB := Lib.hid (HB0.out.trans (hB1.mono (by simp)))
      obtain ⟨c0, c1, c2⟩ := three_at (HA.out.same (hB1.block _ (by simp)))
      clear hB1 HA HB0 C
      go_wp2
      go_ret
      exact ⟨rfl, HB.out⟩
    rw [if_neg h3] at hk
    have hd3 : d ≤ 2000 := by omega
    by_cases h5 : 2000 < (L : Int) - d + n
    all_goals
      first | rw [if_pos h5] at hk | rw [if_neg h5] at hk
      subst hk
      go_enter Tryz.func127, Tryz.ntmps127
      go_wp2_with fail
      go_at_call 61
      refine C.out.mono ?_
      rintro e w1 ⟨rfl, hB1⟩
      have HB := Lib.hid (HB0.out.trans (hB1.mono (by simp)))
      obtain ⟨c0, c1, c2⟩ := three_at (HA.out.same (hB1.block _ (by simp)))
      clear hB1 HA HB0 C
      go_wp2
      go_ret
      exact ⟨rfl, HB.out⟩
  · obtain rfl : k = q := by rw [if_pos hq0] at hk; exact hk.symm
    have hqb : (k == 0) = false := by simpa using hq0
    have hqn : (k != 0) = true := by rw [bne, hqb]; rfl
    clear hk
    go_enter Tryz.func127, Tryz.ntmps127
    go_wp2_with fail
    go_at_call 61
    refine C.out.mono ?_
    rintro e w1 ⟨rfl, hB1⟩
    have HB := Lib.hid (HB0.out.trans (hB1.mono (by simp)))
    clear hB1 HA HB0 C
    go_wp2
    go_ret
    exact ⟨rfl, HB.out⟩

end Go.Proofs.YtmknbakfjhjfmaaGreatDoor.sps

/-! Splices: splice (of lines that may be), Apply, of the program. -/
namespace Go.Proofs.YtmknbakfjhjfmaaGreatDoor.sps
open Go.RowKit Go.Lib pce
set_option linter.unusedVariables false
set_option linter.unusedSimpArgs false
set_option linter.unnecessarySimpa false
set_option linter.unusedSectionVars false

/-- Three lists that are put together. -/
theorem concat_lists (w : World) (F : Nat → Prop) (A1 A2 A3 : Option Addr) (k1 c1 k2 c2 k3 c3 : Nat) (p1 p2 p3 : List ByteArray) (h1 : Lst w F A1 k1 c1 p1) (h2 : Lst w F A2 k2 c2 p2) (h3 : Lst w F A3 k3 c3 p3) (hl : p1.length + p2.length + p3.length ≤ 100000) (w0 : World) (hw0 : w0.heap.size ≤ w.heap.size) (hB00 : Below w0.heap.size w0 w) :
    Calls Tryz.prog 128 #[.slice (some ⟨w.heap.size, 0, none⟩) 3 3] (w.alloc (.cells #[.slice A1 k1 c1, .slice A2 k2 c2, .slice A3 k3 c3] 22)) fun e w' =>
      ∃ B k c, e = .returned (.slice B k c) ∧ k = (p1 ++ p2 ++ p3).length ∧ w'.ownsRow w0.heap.size 9 1 (.slice B k c) k ((p1 ++ p2 ++ p3).map Value.string) ∧ Below w0.heap.size w0 w' := by
  have hB0 : Below w.heap.size w (w.alloc (.cells #[.slice A1 k1 c1, .slice A2 k2 c2, .slice A3 k3 c3] 22)) := (Below.refl _ _).alloc (Nat.le_refl _) _
  have hA := At.new w 22 #[.slice A1 k1 c1, .slice A2 k2 c2, .slice A3 k3 c3]
  obtain rfl := h1.len
  obtain rfl := h2.len
  obtain rfl := h3.len
  generalize hW : w.alloc (.cells #[.slice A1 p1.length c1, .slice A2 p2.length c2, .slice A3 p3.length c3] 22) = W at hA hB0
  have hS : sum [⟨A1, c1, p1.map Value.string⟩, ⟨A2, c2, p2.map Value.string⟩, ⟨A3, c3, p3.map Value.string⟩] = (p1 ++ p2 ++ p3).map Value.string := by simp [sum]
  have q1 := h1.below hB0
  have q2 := h2.below hB0
  have q3 := h3.below hB0
  have hz := hB0.size
  refine (concatT W (fun b => F b ∨ w.heap.size ≤ b) (some ⟨w.heap.size, 0, none⟩) 3 3 [⟨A1, c1, p1.map Value.string⟩, ⟨A2, c2, p2.map Value.string⟩, ⟨A3, c3, p3.map Value.string⟩] rfl (by omega) (by rw [hS, List.length_map]; simp only [List.length_append]; omega) (fun _ => ⟨w.heap.size, 0, rfl, .inr (Nat.le_refl _), hA.lt, fun j u hj => ?_⟩) ?_).mono ?_
  · rw [Nat.zero_add, hA.cell, ← hj]
    simp [sgv]
  · intro s hs
    simp only [List.mem_cons, List.not_mem_nil, or_false] at hs
    rcases hs with rfl | rfl | rfl
    · exact ⟨q1.nil, q1.row.mono fun b hb _ => .inl hb, one_strs _⟩
    · exact ⟨q2.nil, q2.row.mono fun b hb _ => .inl hb, one_strs _⟩
    · exact ⟨q3.nil, q3.row.mono fun b hb _ => .inl hb, one_strs _⟩
  · rintro e w' ⟨B, k, c, rfl, hk, hown, hB⟩
    rw [hS] at hk hown
    refine ⟨B, k, c, rfl, by rw [hk, List.length_map], ⟨hown.1, ?_⟩, hB00.trans ((hB0.trans (hB.mono hz)).mono hw0)⟩
    rcases hown.2 with h0 | ⟨g, cap, cur, hv, hg, r⟩
    · exact .inl h0
    · exact .inr ⟨g, cap, cur, hv, by omega, r⟩

theorem lst_head {w : World} {F : Nat → Prop} {A : Option Addr} {n c : Nat} {zs : List ByteArray} (h : Lst w F A n c zs) (k : Nat) (hk : k ≤ n) : Lst w F A k c (zs.take k) := by
  have hl := h.len
  have hr := h.room
  refine ⟨by rw [List.length_take]; omega, by omega, h.nil, fun hn => ?_⟩
  rw [List.length_map, List.length_take] at hn
  obtain ⟨b, off, e, hF, hb, hc⟩ := h.row (by rw [List.length_map]; omega)
  refine ⟨b, off, e, hF, hb, fun j u hj => hc j u ?_⟩
  rw [List.map_take, List.getElem?_take] at hj
  split at hj
  · exact hj
  · cases hj
theorem lst_tail {w : World} {F : Nat → Prop} {A : Option Addr} {n c : Nat} {zs : List ByteArray} (h : Lst w F A n c zs) (k : Nat) (hk : k ≤ n) : Lst w F (tailA A c k) (n - k) (c - k) (zs.drop k) := by
  have hl := h.len
  have hr := h.room
  refine ⟨by rw [List.length_drop]; omega, by omega, tail_nil h.nil, fun hn => ?_⟩
  rw [List.length_map, List.length_drop] at hn
  obtain ⟨b, off, rfl, hF, hb, hc⟩ := h.row (by rw [List.length_map]; omega)
  unfold tailA
  rw [if_neg (by omega)]
  refine ⟨b, off + k, by simp [Addr.add], hF, hb, fun j u hj => ?_⟩
  have := hc (k + j) u (by rw [List.map_drop, List.getElem?_drop] at hj; exact hj)
  rw [← Nat.add_assoc] at this
  exact this
/-- What a splice tells: an error; or the new lines, in a row of their own. -/
def StepSays (w : World) (L ins : List ByteArray) (a d : Int) (k : Int) (e : Ending) (w' : World) : Prop :=
  (¬ k = 0 ∧ e = .returned (.tuple #[.slice none 0 0, .int .i64 k]) ∧ Below w.heap.size w w') ∨ (k = 0 ∧ ∃ v, e = .returned (.tuple #[v, .int .i64 0]) ∧ Row w (pce.spl L a.toNat d.toNat ins) v w')
theorem StepSays.below {w w' : World} {L ins : List ByteArray} {a d k : Int} {e : Ending} (h : StepSays w L ins a d k e w') : Below w.heap.size w w' := by
  rcases h with ⟨_, _, h⟩ | ⟨_, _, _, h⟩
  · exact h
  · obtain ⟨_, _, _, _, _, _, h⟩ := h; exact h

set_option maxHeartbeats 4000000 in
set_option maxRecDepth 100000 in
theorem step_is (F : Nat → Prop) (A : Option Addr) (n c : Nat) (L : List ByteArray) (a d : Int) (B : Option Addr) (m c' : Nat) (ins : List ByteArray) (w : World) (k : Int) (hk : stpE L.length a d ins = k) (hL : Lst w F A n c L) (hn : n ≤ 2000) (ha1 : -9223372036854775808 ≤ a) (ha2 : a ≤ 9223372036854775807) (hd1 : -9223372036854775808 ≤ d) (hd2 : d ≤ 9223372036854775807)
    (hI : Lst w F B m c' ins) (hm : m ≤ 10000) :
    Calls Tryz.prog 106 #[.slice A n c, .agg #[.int .i64 a, .int .i64 d, .slice B m c']] w (StepSays w L ins a d k) := by
  have hB0 : Below w.heap.size w (w.alloc (.cells #[.int .i64 a, .int .i64 d, .slice B m c'] 46)) := (Below.refl _ _).alloc (Nat.le_refl _) _
  have C := Lib.hid (against_is n a d B m c' ins (w.alloc (.cells #[.int .i64 a, .int .i64 d, .slice B m c'] 46)) k (by rw [hL.len]; exact hk) (by omega) ha1 ha2 hd1 hd2 hI.len (by omega) ((hI.srd.below hB0).more (by simp)))
  have HB0 := Lib.hid hB0
  have HA := Lib.hid (At.new w 46 #[.int .i64 a, .int .i64 d, .slice B m c'])
  have HL := Lib.hid hL
  have HI := Lib.hid hI
  have HK := Lib.hid hk
  clear hk hL hI hB0
  by_cases hk0 : k = 0
  · subst hk0
    obtain ⟨e1, e2, e3, e4, e5⟩ := stpE_zero.1 HK.out
    rw [← HL.out.len] at e3
    obtain ⟨x, rfl⟩ : ∃ x : Nat, a = x := ⟨a.toNat, by omega⟩
    obtain ⟨y, rfl⟩ : ∃ y : Nat, d = y := ⟨d.toNat, by omega⟩
    have hxy : x + y ≤ n := by omega
    clear e1 e2 e3 e4 e5 ha1 ha2 hd1 hd2
    go_enter Tryz.func106, Tryz.ntmps106
    go_wp2_with fail
    go_at_call 127
    refine C.out.mono ?_
    rintro e w1 ⟨rfl, hB1⟩
    have HB := Lib.hid (HB0.out.trans (hB1.mono (by simp)))
    have hz1 := HB.out.size
    have hA1 := HA.out.same (hB1.block _ (by simp))
    obtain ⟨c0, c1, c2⟩ := three_at hA1
    have hwl := hA1.lt
    clear hB1 HA HB0 C hA1
    have S1 := fun W => head_slice A n c x (by have := HL.out.room; omega) W
    have S2 := fun W => tail_slice A n c (x + y) (n - (x + y)) (by omega) W
    have h5 : (x : Int) + y = ((x + y : Nat) : Int) := by omega
    have hw : IntKind.i64.wrap ((x : Int) + y) = (x : Int) + y := by rw [IntKind.wrap_i64]; omega
    have S3 : ∀ W, (Instr.slice 22 (.slice A n c) (some (.int .i64 ((x : Int) + y))) none none).run Tryz.prog W = .ok (.slice (tailA A c (x + y)) (n - (x + y)) (c - (x + y))) W := fun W => by rw [h5]; exact S2 W
    have K := Lib.hid (fun (W : World) (hW : Below w.heap.size w W) => concat_lists W F A B (tailA A c (x + y)) x c m c' (n - (x + y)) (c - (x + y)) _ _ _ (lst_head (HL.out.below hW) x (by omega)) (HI.out.below hW) (lst_tail (HL.out.below hW) (x + y) (by omega)) (by rw [List.length_take, List.length_drop, ← HL.out.len, ← HI.out.len]; omega) w hW.size hW)
    have M1 : More w.heap.size w w1 := HB.out
    have M1' : More w.heap.size w w1.drew := below_drew HB.out
    clear h5
    go_wp2_with fail
    go_still_tail 13, (by kernel_rfl)
    go_wp2_with fail
    go_at_call 128
    refine (K.out _ (by first | exact M1' | exact M1)).mono ?_
    rintro e w2 ⟨B2, k2, cc2, rfl, hk2, hown2, hB2⟩
    have H2 := Lib.hid (And.intro hk2 (And.intro hown2 hB2))
    clear hk2 hown2 hB2 K S1 S2 S3 hw M1 M1' c0 c1 c2
    go_wp2
    go_ret2
    obtain ⟨g1, g2, g3⟩ := H2.out
    exact .inr ⟨rfl, _, rfl, B2, k2, _, rfl, g1, g2, g3⟩
  · have hkb : (k == 0) = false := by simpa using hk0
    have hkn : (k != 0) = true := by rw [bne, hkb]; rfl
    have HK0 := Lib.hid hk0
    clear hk0
    go_enter Tryz.func106, Tryz.ntmps106
    go_wp2_with fail
    go_at_call 127
    refine C.out.mono ?_
    rintro e w1 ⟨rfl, hB1⟩
    have HB := Lib.hid (HB0.out.trans (hB1.mono (by simp)))
    clear hB1 HA HB0 C
    go_wp2
    go_ret2
    exact .inl ⟨HK0.out, rfl, HB.out⟩

/-- What Apply tells: an error; or the new lines. -/
def appK (L : List ByteArray) (a d : Int) (ins : List ByteArray) : Int := if chk L ≠ 0 then chk L else stpE L.length a d ins
theorem appK_zero {L : List ByteArray} {a d : Int} {ins : List ByteArray} : appK L a d ins = 0 ↔ Fine L ∧ stpE L.length a d ins = 0 := by
  unfold appK
  split
  · rename_i h
    exact ⟨fun e => absurd e h, fun e => absurd (fine_chk.2 e.1) h⟩
  · rename_i h
    rw [← fine_chk]
    refine ⟨fun e => ⟨?_, e⟩, fun e => e.2⟩
    rcases Int.decEq (chk L) 0 with h' | h'
    · exact absurd h' h
    · exact h'
theorem appK_fine {L : List ByteArray} {a d : Int} {ins : List ByteArray} (h : Fine L) : appK L a d ins = stpE L.length a d ins := by
  unfold appK; rw [fine_chk.2 h, if_neg (by simp)]
end Go.Proofs.YtmknbakfjhjfmaaGreatDoor.sps
