/- Core: what stands where one block of a buffer has turned. -/
import Derived.Test.YtdbeedhedjhamaaCorRegs
namespace Go.Proofs.Ytdbeedhedjhamaa.cor
open Go.RowKit Go.Lib pce sps mrk
set_option linter.unusedVariables false
set_option linter.unusedSimpArgs false
set_option linter.unnecessarySimpa false
set_option linter.unusedSectionVars false

section
variable {n rb cb x : Nat} {w0 w w' : World} {G : Nat → Prop} {v u v' u' bk gn bk' gn' : Value} {m m' : M} {o o' : Option M} {p p' : Option (M × List Ct)} {ts : List Ct} {s : S} {last last' : ByteArray} {t : TypeId} {cs : Array Value} {d d' : Bool} {r : Value}
theorem Went.of_only (hO : Only x w w') (hG : G x) : Went G G w w' := ⟨.of_only hO hG, fun _ h => .inl h⟩
theorem Rg.only (h : Rg w G rb) (hO : Only x w w') (hG : G x) (hx : rb ≠ x) : Rg w' G rb := h.went (.of_only hO hG) (hO.block rb hx)
theorem Rg.ne (h : Rg w G rb) (hA : At w x t cs) (ht : t ≠ 72) : rb ≠ x := by
  obtain ⟨_, _, _, h1, _, _⟩ := h
  exact At.ne h1 hA (Ne.symm ht)
theorem Bk.only (h : Bk w G o u) (hO : Only x w w') (hG : G x) (hA : At w x t cs) (ht : t ≠ 53) : Bk w' G o u := by
  cases o with
  | none => exact h
  | some m =>
    obtain ⟨bb, v, rfl, h1, h2, h3⟩ := h
    exact ⟨bb, v, rfl, h1, h2.same (hO.block bb (At.ne h2 hA (Ne.symm ht))), h3.went (.of_only hO hG)⟩
theorem Gn.only (h : Gn n w G p u) (hO : Only x w w') (hG : G x) (hA : At w x t cs) (h1 : t ≠ 69) (h2 : t ≠ 24) : Gn n w' G p u := by
  cases p with
  | none => exact h
  | some q =>
    obtain ⟨m, ts⟩ := q
    obtain ⟨gb, v, kb, s, rfl, k1, k2, k3, k4, k5, k6⟩ := h
    refine ⟨gb, v, kb, s, rfl, k1, k2.same (hO.block gb (At.ne k2 hA (Ne.symm h1))), k3.went (.of_only hO hG), k4.only hO hG (fun e => k5 (e ▸ hG)), k5, ?_⟩
    exact k6.went (.of_only hO hG) fun b hu => ⟨hO.block b (fun e => own_ne k6.own hA (Ne.symm h2) (e ▸ hu)), k6.g b hu⟩
/-- The buffer's own block has turned, and nothing else. -/
theorem Is.turn (h : Is n w G cb s v bk gn rb last) (hO : Only cb w w') (hA : At w' cb 57 (coL v' m' bk' gn' (.pointer (some ⟨rb, 0, none⟩)) last' d').toArray) (hM : Mo w G v' m') (hB : Bk w G o' bk') (hN : Gn n w G p' gn') : Is n w' G cb ⟨m', o', p', d'⟩ v' bk' gn' rb last' :=
  ⟨hA, h.gc, h.gr, hM.went (.of_only hO h.gc), h.rg.only hO h.gc (h.rg.ne h.at_ (by decide)), hB.only hO h.gc h.at_ (by decide), hN.only hO h.gc h.at_ (by decide) (by decide)⟩
/-- Nothing that lay there has turned; blocks that are new may be the buffer's own. -/
theorem Is.grow {G' : Nat → Prop} (h : Is n w G cb s v bk gn rb last) (hB : Below w.heap.size w w') (hG : ∀ b, G b → b < w.heap.size) (h1 : ∀ b, G b → G' b) (h2 : ∀ b, G' b → G b ∨ w.heap.size ≤ b) : Is n w' G' cb s v bk gn rb last := by
  have hW : Went G G' w w' := ⟨.of_below hB _, h2⟩
  refine ⟨h.at_.same (hB.block cb h.at_.lt), h1 _ h.gc, h1 _ h.gr, h.mo.went hW, h.rg.went hW (hB.block rb h.rg.lt), h.back.went hW ?_, h.begun.went hW ?_ fun b _ hg => ⟨hB.block b (hG b hg), h1 b hg⟩⟩
  · intro b e
    have hg : G b := by
      have := h.back
      cases hbk : s.back with
      | none => rw [hbk] at this; subst this; cases e
      | some m => rw [hbk] at this; obtain ⟨bb, v, rfl, h1, _⟩ := this; cases e; exact h1
    exact ⟨hB.block b (hG b hg), h1 b hg⟩
  · intro b e
    have hg : G b := by
      have := h.begun
      cases hbg : s.begun with
      | none => rw [hbg] at this; subst this; cases e
      | some q => rw [hbg] at this; obtain ⟨gb, v, kb, s, rfl, h1, _⟩ := this; cases e; exact h1
    exact ⟨hB.block b (hG b hg), h1 b hg⟩
theorem Rg.grow {G' : Nat → Prop} (h : Rg w G rb) (hB : Below w.heap.size w w') (h2 : ∀ b, G' b → G b ∨ w.heap.size ≤ b) : Rg w' G' rb := h.went ⟨.of_below hB _, h2⟩ (hB.block rb h.lt)
theorem Cr.turned {s' : S} {G' : Nat → Prop} (h : Cr n w0 cb s G w) (hW : Went G G' w w') (hG : ∀ b, G' b → b < w'.heap.size) {v bk gn : Value} {rb : Nat} {last : ByteArray} (hi : Is n w' G' cb s' v bk gn rb last) : Cr n w0 cb s' G' w' := by
  refine ⟨h.below.trans (hW.t.below h.size (fun i hi => (h.g i hi).1)), h.room, fun b hb => ⟨?_, hG b hb⟩, v, bk, gn, rb, last, hi⟩
  rcases hW.g b hb with h1 | h1
  · exact (h.g b h1).1
  · have := h.size; omega
/-- One cell of the buffer's block, written. -/
theorem co_set0 (h : At w cb t (coL v m bk gn r last d).toArray) (z : Value) : At (w.setCell ⟨cb, 0, none⟩ z) cb t (coL z m bk gn r last d).toArray := At.put1 (l1 := []) (l2 := .int .i64 m.c :: (arrL m.f ++ [bk, gn, r, .string last, .bool d])) h z
theorem co_set1 (h : At w cb t (coL v m bk gn r last d).toArray) (z : Int) : At (w.setCell ⟨cb, 1, none⟩ (.int .i64 z)) cb t (coL v ⟨m.L, z, m.f⟩ bk gn r last d).toArray := At.put1 (l1 := [v]) (l2 := arrL m.f ++ [bk, gn, r, .string last, .bool d]) h (.int .i64 z)
theorem co_set28 (h : At w cb t (coL v m bk gn r last d).toArray) (z : Value) : At (w.setCell ⟨cb, 28, none⟩ z) cb t (coL v m z gn r last d).toArray := by
  have := At.put1 (l1 := moL v m) (u := bk) (l2 := [gn, r, .string last, .bool d]) (by rw [List.append_assoc]; exact h) z
  rw [moL_len, List.append_assoc] at this
  exact this
theorem co_set29 (h : At w cb t (coL v m bk gn r last d).toArray) (z : Value) : At (w.setCell ⟨cb, 29, none⟩ z) cb t (coL v m bk z r last d).toArray := by
  have := At.put1 (l1 := moL v m ++ [bk]) (u := gn) (l2 := [r, .string last, .bool d]) (by rw [List.append_assoc, List.append_assoc]; exact h) z
  rw [List.length_append, moL_len, List.append_assoc, List.append_assoc] at this
  exact this
theorem co_set32 (h : At w cb t (coL v m bk gn r last d).toArray) (z : Bool) : At (w.setCell ⟨cb, 32, none⟩ (.bool z)) cb t (coL v m bk gn r last z).toArray := by
  have := At.put1 (l1 := moL v m ++ [bk, gn, r, .string last]) (u := .bool d) (l2 := []) (by rw [List.append_nil, List.append_assoc]; exact h) (.bool z)
  rw [List.length_append, moL_len, List.append_nil, List.append_assoc] at this
  exact this
theorem ch_set29 {b : Nat} {sp : Value} (h : At w b t (chL v m r sp).toArray) (z : Value) : At (w.setCell ⟨b, 29, none⟩ z) b t (chL v m r z).toArray := by
  have := At.put1 (l1 := moL v m ++ [r]) (u := sp) (l2 := []) (by rw [List.append_nil, List.append_assoc]; exact h) z
  rw [List.length_append, moL_len, List.append_nil, List.append_assoc] at this
  exact this
end
section
variable {ops : Array Oper} {rest : List Oper} {op : Oper} {a : Act} {w : World} {Q : Exit → Act → World → Prop} {K : Act → World → Prop} {S : World → Prop} {cb : Nat} {t : TypeId} {v bk gn r : Value} {m : M} {last : ByteArray} {d : Bool}
/-- A moment laid down as the buffer's. -/
theorem wp_storeCo (x y : Operand) (ho : op.op = .store 53 x y) (h : At w cb t (coL v m bk gn r last d).toArray) (v' : Option Addr) (m' : M) (hx : a.eval x = .pointer (some ⟨cb, 0, none⟩)) (hy : a.eval y = .agg (moL (.pointer v') m').toArray)
    (hk : ∀ w', At w' cb t (coL (.pointer v') m' bk gn r last d).toArray → Only cb w w' → K (a.put op.dst undef) w') : Oper.wp Try.prog op a w K Q :=
  wp_storeM 53 x y ho cb t [] (moL v m) [bk, gn, r, .string last, .bool d] h (moL (.pointer v') m') (by rw [moL_len, moL_len]) 0 rfl hx hy (by rw [moL_len]; exact infM) (mo_one rfl) hk
theorem wpList_storeCo (hgd : op.guard = none) (x y : Operand) (ho : op.op = .store 53 x y) (h : At w cb t (coL v m bk gn r last d).toArray) (v' : Option Addr) (m' : M) (hx : a.eval x = .pointer (some ⟨cb, 0, none⟩)) (hy : a.eval y = .agg (moL (.pointer v') m').toArray)
    (hk : ∀ w', At w' cb t (coL (.pointer v') m' bk gn r last d).toArray → Only cb w w' → wpList Try.prog ops Q rest (a.put op.dst undef) w') : wpList Try.prog ops Q (op :: rest) a w :=
  wpList_plain hgd fun _ hK => wp_storeCo x y ho h v' m' hx hy fun w' h1 h2 => hK _ _ (hk w' h1 h2)
/-- Marks laid down as the buffer's. -/
theorem wpList_storeCm (hgd : op.guard = none) (x y : Operand) (ho : op.op = .store 36 x y) (h : At w cb t (coL v m bk gn r last d).toArray) (f : Nat → Int) (hx : a.eval x = .pointer (some ⟨cb, 2, none⟩)) (hy : a.eval y = .agg (arr f))
    (hk : ∀ w', At w' cb t (coL v ⟨m.L, m.c, f⟩ bk gn r last d).toArray → Only cb w w' → wpList Try.prog ops Q rest (a.put op.dst undef) w') : wpList Try.prog ops Q (op :: rest) a w := by
  refine wpList_storeM hgd 36 x y ho cb t [v, .int .i64 m.c] (arrL m.f) [bk, gn, r, .string last, .bool d] h (arrL f) (by rw [arrL_len, arrL_len]) 2 rfl hx hy (by rw [arrL_len]; exact mrk.inf) ?_ hk
  intro u hu
  simp only [arrL, List.mem_map] at hu
  obtain ⟨i, _, rfl⟩ := hu
  rfl
theorem step_of {o : Oper} {E : Prop} (hgd : o.guard = none) (h : Oper.wp Try.prog o a w K Q) : if Region.wanted o (yielded ops a.tmps) = true then Oper.wp Try.prog o a w K Q else E := by
  have hw : Region.wanted o (yielded ops a.tmps) = true := by simp [Region.wanted, hgd]
  rw [if_pos hw]
  exact h
theorem step_storeCo {o : Oper} {E : Prop} (hgd : o.guard = none) (x y : Operand) (ho : o.op = .store 53 x y) (h : At w cb t (coL v m bk gn r last d).toArray) (v' : Option Addr) (m' : M) (hx : a.eval x = .pointer (some ⟨cb, 0, none⟩)) (hy : a.eval y = .agg (moL (.pointer v') m').toArray)
    (hk : ∀ w', At w' cb t (coL (.pointer v') m' bk gn r last d).toArray → Only cb w w' → K (a.put o.dst undef) w') :
    if Region.wanted o (yielded ops a.tmps) = true then Oper.wp Try.prog o a w K Q else E := by
  have hw : Region.wanted o (yielded ops a.tmps) = true := by simp [Region.wanted, hgd]
  rw [if_pos hw]
  exact wp_storeCo x y ho h v' m' hx hy hk
end
end Go.Proofs.Ytdbeedhedjhamaa.cor
