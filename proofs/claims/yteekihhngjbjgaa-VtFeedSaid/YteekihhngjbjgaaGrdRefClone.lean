/- Grids: Clone, of the document: a list that grows row by row. -/
import Derived.Test.YteekihhngjbjgaaGrdClone
namespace Go.Proofs.Yteekihhngjbjgaa.grd
open Go.RowKit Go.Lib
set_option linter.unusedVariables false
set_option linter.unusedSimpArgs false
set_option linter.unnecessarySimpa false
set_option linter.unusedSectionVars false

theorem VRd.cells {w : World} {lo hi : Nat} {ad : Addr} {vs : List Value} (h : VRd w lo hi (some ad) vs) : ∀ (j : Nat) u, vs[j]? = some u → w.cell? (ad.add j) = some u := fun j u hj => by
  obtain ⟨b, off, e, _, _, hc⟩ := h (by have := (List.getElem?_eq_some_iff.1 hj).1; omega)
  injection e with e
  subst e
  rw [Go.WideShapes.add_plain]
  exact hc j u hj
/-- append(own, row...), the row nil or not. -/
theorem wpList_append_bytes {w : World} {ops : Array Oper} {rest : List Oper} {o : Oper} {a : Act} {Q : Exit → Act → World → Prop} (hgd : o.guard = none) (s x : Operand)
    (ho : o.op = .call { callee := .builtin .append, args := #[s, x], argTypes := #[39, 39] })
    (base : Nat) (v : Value) (n : Nat) (xs : List Value) (hs : a.eval s = v) (hown : w.ownsRow base 5 1 v n xs)
    (A : Option Addr) (m c lo hi : Nat) (l : List UInt8) (hx : a.eval x = .slice A m c) (hm : m = l.length) (hA : A = none → c = 0) (hr : VRd w lo hi A (l.map u8))
    (h63 : n + m ≤ 1000000) (hbase : base ≤ w.heap.size)
    (h : ∀ v' w', w'.ownsRow base 5 1 v' (n + m) (xs ++ l.map u8) → w.grownBy w' v.ownBlock → wpList Try.prog ops Q rest (a.put o.dst v') w') : wpList Try.prog ops Q (o :: rest) a w := by
  obtain ⟨i0, hi, hz0, hz1, hz2⟩ := info_parts info5
  have hml : (1000000 : Nat) ≤ maxLen := by unfold maxLen; omega
  rcases A with _ | ad
  · obtain rfl : c = 0 := hA rfl
    obtain rfl : m = 0 := by
      rcases Nat.eq_zero_or_pos m with h0 | h0
      · exact h0
      · obtain ⟨_, _, h, _⟩ := hr (by rw [List.length_map]; omega)
        cases h
    obtain rfl : l = [] := List.eq_nil_of_length_eq_zero hm.symm
    exact wpList_append_own_none hgd s x 39 ho base 5 i0 1 Try.underlying39 hi v n xs hs hown hx (h v w (by simpa using hown) (World.grownBy.refl w _))
  · exact wpList_append_own w hgd s x 39 ho base 5 i0 (.int .u8 0) 1 1 Try.underlying39 hi hz0 hz1 hz2 rfl (by decide) v n xs hs hown ad m c (l.map u8) hx (by rw [List.length_map]; omega) hr.cells (fun u hu => by obtain ⟨y, _, rfl⟩ := List.mem_map.1 hu; rfl) (by omega) (by omega) hbase (fun v' w' h1 h2 _ => h v' w' h1 h2)

/-- A list of rows that grows: the first k rows are there. -/
def OwnR (w : World) (lo : Nat) (v : Value) (k : Nat) (ls : List (List UInt8)) : Prop :=
  ∃ (vs : List Value) (f : Nat → Nat), w.ownsRow lo 39 1 v k vs ∧
    (∀ (i : Nat) l, i < k → ls[i]? = some l → ∃ B d, vs[i]? = some (.slice B l.length d) ∧ (B = none → d = 0) ∧ (0 < l.length → B = some ⟨f i, 0, none⟩ ∧ lo ≤ f i ∧ f i < w.heap.size ∧ ∃ cs, At w (f i) 5 cs ∧ ∀ (j : Nat) u, (l.map u8)[j]? = some u → cs[j]? = some u)) ∧
    ∀ (i j : Nat) l l', i < k → j < k → ls[i]? = some l → ls[j]? = some l' → 0 < l.length → 0 < l'.length → f i = f j → i = j
theorem At.ne_type {w : World} {g g' : Nat} {t t' : TypeId} {cs cs' : Array Value} (h : At w g t cs) (h' : At w g' t' cs') (hne : t ≠ t') : g ≠ g' := by
  rintro rfl
  unfold At at h h'
  rw [h] at h'
  injection h' with h'
  injection h' with _ ht
  exact hne ht
theorem OwnR.zero (w : World) (lo : Nat) (ls : List (List UInt8)) : OwnR w lo (.slice none 0 0) 0 ls := ⟨[], fun _ => 0, World.ownsRow_nil _ _ _ _, fun i l h => absurd h (Nat.not_lt_zero _), fun i j l l' h => absurd h (Nat.not_lt_zero _)⟩
theorem OwnR.own {w : World} {lo n c : Nat} {A : Option Addr} {ls : List (List UInt8)} (H : OwnR w lo (.slice A n c) n ls) (hn : n = ls.length) : Own w lo w.heap.size A n c ls := by
  obtain ⟨vs, f, h1, h2, h3⟩ := H
  obtain ⟨A', c', e, hnil, hle⟩ := own_form' h1
  injection e with e1 e2 e3
  subst e1 e3
  rcases Nat.eq_zero_or_pos n with h0 | h0
  · subst h0
    obtain rfl : ls = [] := List.eq_nil_of_length_eq_zero hn.symm
    exact Own.zero hnil
  · obtain ⟨g, cs, rfl, hg, hA, hc⟩ := own_block h1 h0
    refine ⟨hn, hnil, hle, g, cs, f, fun _ => ⟨rfl, hg, hA.lt, hA⟩, fun i l hl => ?_, fun i j l l' e1 e2 p1 p2 e => ?_⟩
    · have hi := (List.getElem?_eq_some_iff.1 hl).1
      obtain ⟨B, d, a1, a2, a3⟩ := h2 i l (by omega) hl
      refine ⟨B, d, hc i _ a1, a2, fun hp => ?_⟩
      obtain ⟨b1, b2, b3, cs', b4, b5⟩ := a3 hp
      exact ⟨b1, At.ne_type b4 hA (by decide), b2, b3, cs', b4, b5⟩
    · have hi := (List.getElem?_eq_some_iff.1 e1).1
      have hj := (List.getElem?_eq_some_iff.1 e2).1
      exact h3 i j l l' (by omega) (by omega) e1 e2 p1 p2 e
theorem own_unique {w : World} {base size n : Nat} {e : TypeId} {v : Value} {xs ys : List Value} (h : w.ownsRow base e size v n xs) (h' : w.ownsRow base e size v n ys) : xs = ys := by
  rcases h.2 with ⟨hv, h0⟩ | ⟨g, cap, cur, hv, _, hh, _, _, _, hx⟩
  · have e1 := h.1
    have e2 := h'.1
    rw [h0, Nat.zero_mul] at e1 e2
    rw [List.eq_nil_of_length_eq_zero e1, List.eq_nil_of_length_eq_zero e2]
  · rcases h'.2 with ⟨hv', h0⟩ | ⟨g', cap', cur', hv', _, hh', _, _, _, hx'⟩
    · rw [hv] at hv'; injection hv' with a; cases a
    · rw [hv] at hv'
      injection hv' with a
      injection a with a
      injection a with a _
      subst a
      rw [hh] at hh'
      injection hh' with hh'
      injection hh' with hh' _
      rw [← hx, ← hx', hh']
theorem own_same {w w' : World} {base : Nat} {e : TypeId} {size n : Nat} {v : Value} {xs : List Value} (h : w.ownsRow base e size v n xs) (hb : ∀ b, v.ownBlock = some b → w'.heap[b]? = w.heap[b]?) : w'.ownsRow base e size v n xs := by
  refine ⟨h.1, ?_⟩
  rcases h.2 with h0 | ⟨g, cap, cur, rfl, hg, hh, r⟩
  · exact .inl h0
  · exact .inr ⟨g, cap, cur, rfl, hg, (hb g rfl).trans hh, r⟩
theorem own_keep {w w' : World} {base : Nat} {e : TypeId} {size n : Nat} {v : Value} {xs : List Value} (h : w.ownsRow base e size v n xs) (hB : Below w.heap.size w w') : w'.ownsRow base e size v n xs :=
  own_same h fun b hb => hB.block b (h.lt b hb).2
theorem own_le (g n c : Nat) : ∀ k, (Value.slice (some ⟨g, 0, none⟩) n c).ownBlock = some k → g ≤ k := fun k e => by
  have : g = k := by simpa [Value.ownBlock] using e
  omega
/-- One row more. -/
theorem OwnR.step {w w2 w4 : World} {lo k : Nat} {v v' : Value} {ls : List (List UInt8)} (H : OwnR w lo v k ls) (hlo : lo ≤ w.heap.size) (x : List UInt8) (hx : ls[k]? = some x) {B : Option Addr} {d : Nat}
    (hB2 : Below w.heap.size w w2) (ho2 : w2.ownsRow w.heap.size 5 1 (.slice B x.length d) x.length (x.map u8))
    {u : Value} (hg4 : (w2.alloc (.cells #[u] 39)).grownBy w4 v.ownBlock) (vs0 : List Value) (hv0 : w.ownsRow lo 39 1 v k vs0) (ho4 : w4.ownsRow lo 39 1 v' (k + 1) (vs0 ++ [.slice B x.length d])) :
    OwnR w4 lo v' (k + 1) ls := by
  obtain ⟨vs, f, h1, h2, h3⟩ := H
  obtain rfl := own_unique hv0 h1
  have hvl : vs0.length = k := by have := h1.1; omega
  have hz2 := hB2.size
  have hz4 : w2.heap.size + 1 ≤ w4.heap.size := by have := hg4.size; simpa using this
  have keep : ∀ b, b < w2.heap.size → v.ownBlock ≠ some b → w4.heap[b]? = w2.heap[b]? := fun b hb hne => (hg4.block b (by simp; omega) (Ne.symm hne)).trans (Below.heap_alloc _ _ _ hb)
  obtain ⟨_, _, e, hnil, _⟩ := own_form' ho2
  injection e with e1 e2 e3
  subst e1 e3
  obtain ⟨g, hg⟩ : ∃ g, 0 < x.length → B = some ⟨g, 0, none⟩ ∧ w.heap.size ≤ g ∧ ∃ cs, At w2 g 5 cs ∧ ∀ (j : Nat) u, (x.map u8)[j]? = some u → cs[j]? = some u := by
    rcases Nat.eq_zero_or_pos x.length with h0 | h0
    · exact ⟨0, fun h => absurd h (by omega)⟩
    · obtain ⟨g, cs, a1, a2, a3, a4⟩ := own_block ho2 h0
      exact ⟨g, fun _ => ⟨a1, a2, cs, a3, a4⟩⟩
  have q : ∀ (i : Nat) l, i < k → ls[i]? = some l → 0 < l.length → f i < w.heap.size := fun i l hi hl hp => by
    obtain ⟨B, d, _, _, a3⟩ := h2 i l hi hl
    exact (a3 hp).2.2.1
  refine ⟨vs0 ++ [.slice B x.length d], fun i => if i = k then g else f i, ho4, fun i l hi hl => ?_, fun i j l l' hi hj e1 e2 p1 p2 e => ?_⟩
  · by_cases hik : i = k
    · subst hik
      rw [hx, Option.some.injEq] at hl
      subst hl
      refine ⟨B, d, by rw [List.getElem?_append_right (by omega), hvl]; simp, hnil, fun hp => ?_⟩
      obtain ⟨a1, a2, cs, a3, a4⟩ := hg hp
      dsimp only
      rw [if_pos rfl]
      refine ⟨a1, by omega, by have := a3.lt; omega, cs, a3.same (keep g a3.lt (fun e => ?_)), a4⟩
      have := (h1.lt g e).2
      omega
    · obtain ⟨B', d', a1, a2, a3⟩ := h2 i l (by omega) hl
      refine ⟨B', d', by rw [List.getElem?_append_left (by omega)]; exact a1, a2, fun hp => ?_⟩
      obtain ⟨b1, b2, b3, cs, b4, b5⟩ := a3 hp
      dsimp only
      rw [if_neg hik]
      have b6 := b4.keep hB2 b3
      refine ⟨b1, b2, by omega, cs, b6.same (keep (f i) b6.lt (fun e => ?_)), b5⟩
      rcases h1.2 with ⟨hv, _⟩ | ⟨g', cap, cur, hv, _, hh, _⟩
      · rw [hv] at e; cases e
      · rw [hv] at e
        have e2 : g' = f i := by simpa [Value.ownBlock] using e
        exact At.ne_type (show At w g' 39 cur from hh) b4 (by decide) e2
  · dsimp only at e
    by_cases hik : i = k
    · by_cases hjk : j = k
      · omega
      · subst hik
        rw [hx, Option.some.injEq] at e1
        subst e1
        rw [if_pos rfl, if_neg hjk] at e
        have := q j l' (by omega) e2 p2
        have := (hg p1).2.1
        omega
    · by_cases hjk : j = k
      · subst hjk
        rw [hx, Option.some.injEq] at e2
        subst e2
        rw [if_neg hik, if_pos rfl] at e
        have := q i l (by omega) e1 p1
        have := (hg p2).2.1
        omega
      · rw [if_neg hik, if_neg hjk] at e
        exact h3 i j l l' (by omega) (by omega) e1 e2 p1 p2 e
end Go.Proofs.Yteekihhngjbjgaa.grd
