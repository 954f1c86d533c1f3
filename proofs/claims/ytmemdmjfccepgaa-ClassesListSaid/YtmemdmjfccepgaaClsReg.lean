/- Classes: what has been laid while the map of names is being made, in whatever order. -/
import Derived.Test.YtmemdmjfccepgaaClsMap
import Derived.Great.BuildSlice
namespace Go.Proofs.Ytmemdmjfccepgaa.cls
open Go.RowKit Go.Lib
open Go.ChangeMaps (setBlock)
set_option linter.unusedVariables false
set_option linter.unusedSimpArgs false
set_option linter.unnecessarySimpa false
set_option linter.unusedSectionVars false

section
variable {P : Program} {ops : Array Oper} {Q : Exit → Act → World → Prop} {i : Nat} {o : Oper} {a : Act} {w w' : World} {K : Act → World → Prop} {v : Value}
theorem wpOp_val (hi : ops[i]? = some o) (hg : o.guard = none) (hr : (execOp a.eval o).run P w = .ok (.value v) w') (hk : K (a.put o.dst v) w') : wpOp P ops Q i K a w := by
  unfold wpOp
  simp only [hi]
  rw [show Region.wanted o (yielded ops a.tmps) = true by unfold Region.wanted; rw [hg]]
  simp only [if_true, Oper.wp, hr, Oper.upon]
  exact .inl hk
theorem wpOp_skip (hi : ops[i]? = some o) (hg : o.guard = none) (hr : (execOp a.eval o).run P w = .ok .skip w') (hk : K (a.put o.dst undef) w') : wpOp P ops Q i K a w := by
  unfold wpOp
  simp only [hi]
  rw [show Region.wanted o (yielded ops a.tmps) = true by unfold Region.wanted; rw [hg]]
  simp only [if_true, Oper.wp, hr, Oper.upon]
  exact .inl hk
theorem wpOp_call {f : FuncId} {args : Array Value} (hi : ops[i]? = some o) (hg : o.guard = none) (hr : (execOp a.eval o).run P w = .ok (.enter f args) w) (hc : Calls P f args w fun e w' => ∃ v, e = .returned v ∧ K (a.put o.dst v) w') : wpOp P ops Q i K a w := by
  unfold wpOp
  simp only [hi]
  rw [show Region.wanted o (yielded ops a.tmps) = true by unfold Region.wanted; rw [hg]]
  simp only [if_true, Oper.wp, hr, Oper.upon_enter]
  refine .inl (hc.mono fun e w' ⟨v, he, hk⟩ => ?_)
  subst he
  exact hk
def downB (ops : Array Oper) : Bool := (List.range ops.size).all fun i => match ops[i]? with
  | some o => o.after.all fun e => decide (e.on < i)
  | none => true
theorem downB_spec (h : downB ops = true) (i : Nat) (o : Oper) (ho : ops[i]? = some o) : ∀ e ∈ o.after, e.on < i := by
  intro e he
  have hi := (Array.getElem?_eq_some_iff.1 ho).1
  have := List.all_eq_true.1 h i (List.mem_range.2 hi)
  rw [ho] at this
  simpa using Array.all_eq_true_iff_forall_mem.1 this e he
end

/-! ## The state -/
def sl (a : Act) (t : Nat) : Value := a.tmps.getD t undef
theorem sl_put (a : Act) (d t : Nat) (v : Value) (h : d < a.tmps.size) : sl (a.put (some d) v) t = if t = d then v else sl a t := by
  unfold sl Act.put
  by_cases hd : t = d
  · subst hd; simp [Array.getD_eq_getD_getElem?, h]
  · simp [Array.getD_eq_getD_getElem?, Array.getElem?_setIfInBounds_ne (Ne.symm hd), hd]
inductive Sp0
  | fn (f : Nat → Bool)
  | row (fs : List (Nat → Bool))
def SpIs (n : Nat) (w : World) (v : Value) : Sp0 → Prop
  | .fn f => FnIs n w v f
  | .row fs => ∃ (r : Nat) (vs : List Value), v = .slice (some ⟨r, 0, none⟩) fs.length fs.length ∧ n ≤ r ∧ vs.length = fs.length ∧ w.heap[r]? = some (.cells vs.toArray 35) ∧ ∀ (i : Nat) (v : Value) (f : Nat → Bool), vs[i]? = some v → fs[i]? = some f → FnIs n w v f
theorem SpIs.kp {n : Nat} {w w' : World} {v : Value} {s : Sp0} (h : SpIs n w v s) (hk : Kp n w w') : SpIs n w' v s := by
  cases s with
  | fn f => exact FnIs.kp h hk
  | row fs =>
    obtain ⟨r, vs, hv, hr, hl, hb, hf⟩ := h
    exact ⟨r, vs, hv, hr, hl, hk.cells r hr _ _ hb, fun i v f h1 h2 => (hf i v f h1 h2).kp hk⟩
/-- The operations that lay a value: where, and what. -/
def valI : List Nat := [1, 3, 5, 7, 9, 11, 12, 13, 14, 15, 17, 18, 19, 20, 22, 23, 24, 25, 27, 28, 29, 30, 32, 34, 36]
def dOf : Nat → Nat
  | 1 => 20 | 3 => 21 | 5 => 22 | 7 => 23 | 9 => 24 | 11 => 25 | 12 => 26 | 13 => 27 | 14 => 28 | 15 => 29 | 17 => 30 | 18 => 31 | 19 => 32 | 20 => 33 | 22 => 34 | 23 => 35 | 24 => 36 | 25 => 37 | 27 => 38 | 28 => 39 | 29 => 40 | 30 => 41 | 32 => 42 | 34 => 43 | _ => 44
def sOf : Nat → Sp0
  | 1 => .fn fLower | 3 => .fn fUpper | 5 => .fn fAlpha | 7 => .fn fDigit | 9 => .fn fAlnum | 11 => .fn fDigit | 12 => .fn (btw 97 102) | 13 => .fn (btw 65 70) | 14 => .row [fDigit, btw 97 102, btw 65 70] | 15 => .fn fXdigit
  | 17 => .fn (btw 9 13) | 18 => .fn (btw 32 32) | 19 => .row [btw 9 13, btw 32 32] | 20 => .fn fSpace | 22 => .fn (btw 9 9) | 23 => .fn (btw 32 32) | 24 => .row [btw 9 9, btw 32 32] | 25 => .fn fBlank
  | 27 => .fn (btw 0 31) | 28 => .fn (btw 127 127) | 29 => .row [btw 0 31, btw 127 127] | 30 => .fn fCntrl | 32 => .fn fGraph | 34 => .fn fPrint | _ => .fn fPunct
/-- The stores: at which name, what. -/
def insI : List Nat := [2, 4, 6, 8, 10, 16, 21, 26, 31, 33, 35, 37]
def kOf : Nat → List UInt8
  | 2 => nLower | 4 => nUpper | 6 => nAlpha | 8 => nDigit | 10 => nAlnum | 16 => nXdigit | 21 => nSpace | 26 => nBlank | 31 => nCntrl | 33 => nGraph | 35 => nPrint | _ => nPunct
def fOf : Nat → (Nat → Bool)
  | 2 => fLower | 4 => fUpper | 6 => fAlpha | 8 => fDigit | 10 => fAlnum | 16 => fXdigit | 21 => fSpace | 26 => fBlank | 31 => fCntrl | 33 => fGraph | 35 => fPrint | _ => fPunct
theorem d_apart : ∀ i ∈ valI, ∀ j ∈ valI, j ≠ i → dOf j ≠ dOf i := by decide
theorem d_base : ∀ i ∈ valI, 20 ≤ dOf i ∧ dOf i ≤ 44 ∧ i ≠ 0 ∧ i ≠ 38 ∧ i ≠ 39 ∧ i < 40 ∧ i ∉ insI := by decide
theorem i_base : ∀ i ∈ insI, i ≠ 0 ∧ i ≠ 38 ∧ i ≠ 39 ∧ i < 40 ∧ i ∉ valI := by decide
theorem k_apart : ∀ i ∈ insI, ∀ j ∈ insI, kOf j = kOf i → j = i := by decide
theorem k_small : ∀ i ∈ insI, (kOf i).length ≤ 6 := by decide
theorem k_table : ∀ i ∈ insI, (kOf i, fOf i) ∈ clsT := by
  intro i hi
  simp only [insI, List.mem_cons, List.not_mem_nil, or_false] at hi
  rcases hi with rfl | rfl | rfl | rfl | rfl | rfl | rfl | rfl | rfl | rfl | rfl | rfl <;> simp [clsT, kOf, fOf]
theorem table_k (k : List UInt8) (f : Nat → Bool) (h : (k, f) ∈ clsT) : ∃ i ∈ insI, kOf i = k := by
  simp only [clsT, List.mem_cons, List.not_mem_nil, or_false, Prod.mk.injEq] at h
  rcases h with ⟨rfl, _⟩ | ⟨rfl, _⟩ | ⟨rfl, _⟩ | ⟨rfl, _⟩ | ⟨rfl, _⟩ | ⟨rfl, _⟩ | ⟨rfl, _⟩ | ⟨rfl, _⟩ | ⟨rfl, _⟩ | ⟨rfl, _⟩ | ⟨rfl, _⟩ | ⟨rfl, _⟩
  · exact ⟨2, by decide, rfl⟩
  · exact ⟨4, by decide, rfl⟩
  · exact ⟨6, by decide, rfl⟩
  · exact ⟨8, by decide, rfl⟩
  · exact ⟨10, by decide, rfl⟩
  · exact ⟨16, by decide, rfl⟩
  · exact ⟨21, by decide, rfl⟩
  · exact ⟨26, by decide, rfl⟩
  · exact ⟨31, by decide, rfl⟩
  · exact ⟨33, by decide, rfl⟩
  · exact ⟨35, by decide, rfl⟩
  · exact ⟨37, by decide, rfl⟩

/-- What the map holds. -/
def MapIs (n : Nat) (L : Array Bool) (w : World) (v : Value) : Prop :=
  ∃ b es c, v = .map (some b) ∧ n ≤ b ∧ w.heap[b]? = some (.map es c) ∧ (∀ e ∈ es.toList, ∃ j, j ∈ insI ∧ L.getD j false = true ∧ e.key = .string (B (kOf j)) ∧ FnIs n w e.val (fOf j)) ∧
    (∀ j, j ∈ insI → L.getD j false = true → ∃ e ∈ es.toList, e.key = .string (B (kOf j)))
/-- A variable of its own that holds a function. -/
def VarIs (n : Nat) (w : World) (v : Value) (f : Nat → Bool) : Prop := ∃ b u, v = .pointer (some ⟨b, 0, none⟩) ∧ n ≤ b ∧ w.heap[b]? = some (.cells #[u] 35) ∧ FnIs n w u f
theorem VarIs.kp {n : Nat} {w w' : World} {v : Value} {f : Nat → Bool} (h : VarIs n w v f) (hk : Kp n w w') : VarIs n w' v f := by
  obtain ⟨b, u, hv, hb, hc, hf⟩ := h
  exact ⟨b, u, hv, hb, hk.cells b hb _ _ hc, hf.kp hk⟩
structure St (n : Nat) (w0 : World) (L : Array Bool) (a : Act) (w : World) : Prop where
  ls : L.size = 40
  ts : a.tmps.size = 46
  df : a.defers = []
  be : Below n w0 w
  nw : n ≤ w.heap.size
  s1 : FnIs n w (sl a 1) fLower
  s2 : FnIs n w (sl a 2) fUpper
  s3 : FnIs n w (sl a 3) fDigit
  s4 : FnIs n w (sl a 4) fAlpha
  s5 : VarIs n w (sl a 5) fAlnum
  s6 : VarIs n w (sl a 6) fGraph
  sv : ∀ j, j ∈ valI → L.getD j false = true → SpIs n w (sl a (dOf j)) (sOf j)
  mp : L.getD 0 false = true → MapIs n L w (sl a 19)
  m0 : L.getD 0 false = false → L.getD 38 false = false ∧ L.getD 39 false = false ∧ ∀ j, j ∈ insI → L.getD j false = false
  e38 : L.getD 38 false = true → sl a 45 = sl a 19
  e39 : L.getD 39 false = true → sl a 0 = sl a 19
section
variable {n : Nat} {w0 w w' : World} {L : Array Bool} {a : Act}
theorem MapIs.kp {v : Value} {i : Nat} (h : MapIs n L w v) (hB : Below w.heap.size w w') (hi : i ∉ insI) (hs : i < L.size) : MapIs n (L.setIfInBounds i true) w' v := by
  obtain ⟨b, es, c, hv, hb, hm, h1, h2⟩ := h
  have hne : ∀ j, j ∈ insI → (L.setIfInBounds i true).getD j false = L.getD j false := fun j hj => by
    rw [getD_set L i j false hs, if_neg (fun e => by subst e; exact hi hj)]
  refine ⟨b, es, c, hv, hb, (hB.block b (Array.getElem?_eq_some_iff.1 hm).1).trans hm, fun e he => ?_, fun j hj hL => ?_⟩
  · obtain ⟨j, hj, hL, hk, hf⟩ := h1 e he
    exact ⟨j, hj, by rw [hne j hj]; exact hL, hk, hf.kp (Kp.of_below hB)⟩
  · rw [hne j hj] at hL
    exact h2 j hj hL
/-- A value has been laid. -/
theorem St.val (h : St n w0 L a w) (hB : Below w.heap.size w w') (i : Nat) (hm : i ∈ valI) (v : Value) (hv : SpIs n w' v (sOf i)) : St n w0 (L.setIfInBounds i true) (a.put (some (dOf i)) v) w' := by
  obtain ⟨h1, h2, h3, h4, h5, h6, h7⟩ := d_base i hm
  have hk : Kp n w w' := Kp.of_below hB
  have hs : i < L.size := by rw [h.ls]; exact h6
  have hp : ∀ t, t ≠ dOf i → sl (a.put (some (dOf i)) v) t = sl a t := fun t ht => by rw [sl_put a _ t v (by rw [h.ts]; omega), if_neg ht]
  have hL : ∀ j, j ≠ i → (L.setIfInBounds i true).getD j false = L.getD j false := fun j hj => by rw [getD_set L i j false hs, if_neg hj]
  refine ⟨by simp [h.ls], by simp [Act.put, h.ts], by simp [Act.put, h.df], h.be.trans (hB.mono h.nw), Nat.le_trans h.nw hB.size, ?_, ?_, ?_, ?_, ?_, ?_, ?_, ?_, ?_, ?_, ?_⟩
  · rw [hp 1 (by omega)]; exact h.s1.kp hk
  · rw [hp 2 (by omega)]; exact h.s2.kp hk
  · rw [hp 3 (by omega)]; exact h.s3.kp hk
  · rw [hp 4 (by omega)]; exact h.s4.kp hk
  · rw [hp 5 (by omega)]; exact h.s5.kp hk
  · rw [hp 6 (by omega)]; exact h.s6.kp hk
  · intro j hj hLj
    by_cases e : j = i
    · subst e
      rw [sl_put a _ _ v (by rw [h.ts]; omega), if_pos rfl]
      exact hv
    · rw [hL j e] at hLj
      rw [hp _ (d_apart i hm j hj e)]
      exact (h.sv j hj hLj).kp hk
  · intro h0
    rw [hL 0 (Ne.symm h3)] at h0
    rw [hp 19 (by omega)]
    exact (h.mp h0).kp hB h7 hs
  · intro h0
    rw [hL 0 (Ne.symm h3)] at h0
    obtain ⟨m1, m2, m3⟩ := h.m0 h0
    exact ⟨by rw [hL 38 (Ne.symm h4)]; exact m1, by rw [hL 39 (Ne.symm h5)]; exact m2, fun j hj => by rw [hL j (fun e => by subst e; exact h7 hj)]; exact m3 j hj⟩
  · intro h8
    rw [hL 38 (Ne.symm h4)] at h8
    rw [hp 45 (by omega), hp 19 (by omega)]
    exact h.e38 h8
  · intro h9
    rw [hL 39 (Ne.symm h5)] at h9
    rw [hp 0 (by omega), hp 19 (by omega)]
    exact h.e39 h9
/-- The map has been made. -/
theorem St.made (h : St n w0 L a w) (h0 : L.getD 0 true = false) : St n w0 (L.setIfInBounds 0 true) (a.put (some 19) (.map (some w.heap.size))) (w.alloc (.map #[] 0)) := by
  have hB : Below w.heap.size w (w.alloc (.map #[] 0)) := (Below.refl _ _).alloc (Nat.le_refl _) _
  have hk : Kp n w (w.alloc (.map #[] 0)) := Kp.of_below hB
  have hs : 0 < L.size := by rw [h.ls]; decide
  have h0' : L.getD 0 false = false := by rw [getD_of_lt L 0 hs false true]; exact h0
  obtain ⟨m1, m2, m3⟩ := h.m0 h0'
  have hp : ∀ t, t ≠ 19 → sl (a.put (some 19) (.map (some w.heap.size))) t = sl a t := fun t ht => by rw [sl_put a _ t _ (by rw [h.ts]; omega), if_neg ht]
  have hL : ∀ j, j ≠ 0 → (L.setIfInBounds 0 true).getD j false = L.getD j false := fun j hj => by rw [getD_set L 0 j false hs, if_neg hj]
  refine ⟨by simp [h.ls], by simp [Act.put, h.ts], by simp [Act.put, h.df], h.be.trans (hB.mono h.nw), Nat.le_trans h.nw hB.size, ?_, ?_, ?_, ?_, ?_, ?_, ?_, ?_, ?_, ?_, ?_⟩
  · rw [hp 1 (by omega)]; exact h.s1.kp hk
  · rw [hp 2 (by omega)]; exact h.s2.kp hk
  · rw [hp 3 (by omega)]; exact h.s3.kp hk
  · rw [hp 4 (by omega)]; exact h.s4.kp hk
  · rw [hp 5 (by omega)]; exact h.s5.kp hk
  · rw [hp 6 (by omega)]; exact h.s6.kp hk
  · intro j hj hLj
    obtain ⟨b1, b2, b3, b4, b5, b6, b7⟩ := d_base j hj
    rw [hL j b3] at hLj
    rw [hp _ (by omega)]
    exact (h.sv j hj hLj).kp hk
  · intro _
    rw [sl_put a _ _ _ (by rw [h.ts]; omega), if_pos rfl]
    refine ⟨w.heap.size, #[], 0, rfl, h.nw, new_at _ _, fun e he => by simp at he, fun j hj hLj => ?_⟩
    obtain ⟨c1, c2, c3, c4, c5⟩ := i_base j hj
    rw [hL j c1, m3 j hj] at hLj
    cases hLj
  · intro hc
    rw [getD_set L 0 0 false hs, if_pos rfl] at hc
    cases hc
  · intro h8
    rw [hL 38 (by decide), m1] at h8
    cases h8
  · intro h9
    rw [hL 39 (by decide), m2] at h9
    cases h9
/-- A function has been stored at its name. -/
theorem St.ins (h : St n w0 L a w) (i : Nat) (hm : i ∈ insI) (hi : L.getD i true = false) (h0 : L.getD 0 false = true) (v : Value) (hv : FnIs n w v (fOf i)) (m : Value) (hmv : sl a 19 = m) :
    ∃ w', (Instr.mapUpdate 48 m (.string (B (kOf i))) v).run Try.prog w = .ok () w' ∧ St n w0 (L.setIfInBounds i true) a w' := by
  subst hmv
  obtain ⟨b1, b2, b3, b4, b5⟩ := i_base i hm
  obtain ⟨b, es, c, hmap, hb, hcell, h1, h2⟩ := h.mp h0
  have hs : i < L.size := by rw [h.ls]; exact b4
  have hLi : L.getD i false = false := by rw [getD_of_lt L i hs false true]; exact hi
  have hL : ∀ j, j ≠ i → (L.setIfInBounds i true).getD j false = L.getD j false := fun j hj => by rw [getD_set L i j false hs, if_neg hj]
  have small : ∀ j, j ∈ insI → (B (kOf j)).size ≤ maxLen := fun j hj => by rw [B_size]; have := k_small j hj; unfold maxLen; omega
  have hks : KeysOk es := fun e he => by
    obtain ⟨j, hj, _, hk, _⟩ := h1 e he
    exact ⟨_, hk, small j hj⟩
  have hrun := run_newKey hcell hks (B (kOf i)) (small i hm) (fun e he hke => by
    obtain ⟨j, hj, hLj, hk, _⟩ := h1 e he
    rw [hk] at hke
    injection hke with hke
    have := k_apart i hm j hj (B_inj hke)
    subst this
    rw [hLi] at hLj
    cases hLj) v
  rw [hmap]
  refine ⟨_, hrun, ?_⟩
  have hk := setMap_kp hcell n (.map (es.push { key := .string (B (kOf i)), val := v, born := c }) (c + 1))
  have hbut := setMap_but w b (.map (es.push { key := .string (B (kOf i)), val := v, born := c }) (c + 1))
  refine ⟨by simp [h.ls], h.ts, h.df, h.be.trans (hbut.below hb), by rw [hbut.size]; exact h.nw, h.s1.kp hk, h.s2.kp hk, h.s3.kp hk, h.s4.kp hk, h.s5.kp hk, h.s6.kp hk, ?_, ?_, ?_, ?_, ?_⟩
  · intro j hj hLj
    rw [hL j (fun e => by subst e; exact b5 hj)] at hLj
    exact (h.sv j hj hLj).kp hk
  · intro _
    refine ⟨b, _, _, hmap, hb, setMap_at hcell, fun e he => ?_, fun j hj hLj => ?_⟩
    · rw [Array.toList_push, List.mem_append, List.mem_singleton] at he
      rcases he with he | rfl
      · obtain ⟨j, hj, hLj, hk', hf⟩ := h1 e he
        refine ⟨j, hj, ?_, hk', hf.kp hk⟩
        rw [getD_set L i j false hs]
        split
        · rfl
        · exact hLj
      · exact ⟨i, hm, by rw [getD_set L i i false hs, if_pos rfl], rfl, hv.kp hk⟩
    · rw [Array.toList_push]
      by_cases e : j = i
      · subst e
        exact ⟨_, List.mem_append_right _ (List.mem_singleton.2 rfl), rfl⟩
      · rw [hL j e] at hLj
        obtain ⟨x, hx, hxk⟩ := h2 j hj hLj
        exact ⟨x, List.mem_append_left _ hx, hxk⟩
  · intro hc
    rw [hL 0 (Ne.symm b1), h0] at hc
    cases hc
  · intro h8
    rw [hL 38 (Ne.symm b2)] at h8
    exact h.e38 h8
  · intro h9
    rw [hL 39 (Ne.symm b3)] at h9
    exact h.e39 h9
/-- The map goes on into another slot. -/
theorem St.move (h : St n w0 L a w) (i d : Nat) (hid : (i = 38 ∧ d = 45) ∨ (i = 39 ∧ d = 0)) (h0 : L.getD 0 false = true) (v : Value) (hv : v = sl a 19) : St n w0 (L.setIfInBounds i true) (a.put (some d) v) w := by
  have hs : i < L.size := by rw [h.ls]; omega
  have hd : d < 46 := by omega
  have hp : ∀ t, t ≠ d → sl (a.put (some d) v) t = sl a t := fun t ht => by rw [sl_put a _ t v (by rw [h.ts]; omega), if_neg ht]
  have hL : ∀ j, j ≠ i → (L.setIfInBounds i true).getD j false = L.getD j false := fun j hj => by rw [getD_set L i j false hs, if_neg hj]
  have hni : i ∉ insI := by rcases hid with ⟨rfl, _⟩ | ⟨rfl, _⟩ <;> decide
  have hnv : i ∉ valI := by rcases hid with ⟨rfl, _⟩ | ⟨rfl, _⟩ <;> decide
  refine ⟨by simp [h.ls], by simp [Act.put, h.ts], by simp [Act.put, h.df], h.be, h.nw, ?_, ?_, ?_, ?_, ?_, ?_, ?_, ?_, ?_, ?_, ?_⟩
  · rw [hp 1 (by omega)]; exact h.s1
  · rw [hp 2 (by omega)]; exact h.s2
  · rw [hp 3 (by omega)]; exact h.s3
  · rw [hp 4 (by omega)]; exact h.s4
  · rw [hp 5 (by omega)]; exact h.s5
  · rw [hp 6 (by omega)]; exact h.s6
  · intro j hj hLj
    obtain ⟨b1, b2, _⟩ := d_base j hj
    rw [hL j (fun e => by subst e; exact hnv hj)] at hLj
    rw [hp _ (by omega)]
    exact h.sv j hj hLj
  · intro _
    rw [hp 19 (by omega)]
    exact (h.mp h0).kp (Below.refl _ _) hni hs
  · intro hc
    rw [hL 0 (by omega), h0] at hc
    cases hc
  · intro h8
    rw [hp 19 (by omega)]
    rcases hid with ⟨rfl, rfl⟩ | ⟨rfl, rfl⟩
    · rw [sl_put a _ _ v (by rw [h.ts]; omega), if_pos rfl]; exact hv
    · rw [hL 38 (by decide)] at h8
      rw [hp 45 (by decide)]
      exact h.e38 h8
  · intro h9
    rw [hp 19 (by omega)]
    rcases hid with ⟨rfl, rfl⟩ | ⟨rfl, rfl⟩
    · rw [hL 39 (by decide)] at h9
      rw [hp 0 (by decide)]
      exact h.e39 h9
    · rw [sl_put a _ _ v (by rw [h.ts]; omega), if_pos rfl]; exact hv
/-- At the end. -/
theorem St.done (h : St n w0 L a w) (hall : ∀ i, i < 40 → L.getD i true = true) : TabIs n w (sl a 0) ∧ Below n w0 w := by
  have hall' : ∀ i, i < 40 → L.getD i false = true := fun i hi => by rw [getD_of_lt L i (by rw [h.ls]; exact hi) false true]; exact hall i hi
  refine ⟨?_, h.be⟩
  rw [h.e39 (hall' 39 (by decide))]
  obtain ⟨b, es, c, hv, hb, hm, h1, h2⟩ := h.mp (hall' 0 (by decide))
  refine ⟨b, es, c, hv, hb, hm, fun e he => ?_, fun k f hk => ?_⟩
  · obtain ⟨j, hj, _, hke, hf⟩ := h1 e he
    exact ⟨_, _, k_table j hj, hke, hf⟩
  · obtain ⟨j, hj, rfl⟩ := table_k k f hk
    exact h2 j hj (hall' j (i_base j hj).2.2.2.1)
end
end Go.Proofs.Ytmemdmjfccepgaa.cls
