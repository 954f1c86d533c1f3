/- Lists of texts: what is asked of them again and again, and the document's Join and Check (stage 1's texts, gathered). -/
import Derived.Test.YtdbeedhedjhamaaCheck
import Derived.Test.YtdbeedhedjhamaaWords
import Derived.Test.YtdbeedhedjhamaaTwin
import Derived.Laws.AppendOwnNone
namespace Go.Proofs.Ytdbeedhedjhamaa
open Go.RowKit Go.Shelf Go.Lib
set_option linter.unusedVariables false
set_option linter.unusedSimpArgs false

theorem SRd.of_row {w : World} {base : Nat} {A : Option Addr} {m c : Nat} {zs more : List ByteArray} (hm : m = (zs ++ more).length) (h : w.ownsRow base 9 1 (.slice A m c) m ((zs ++ more).map Value.string)) : SRd w w.heap.size A zs := by
  intro hn
  have hm0 : 0 < m := by rw [hm, List.length_append]; omega
  obtain ⟨g, cap, hv, _, hlt⟩ := h.form hm0
  have hA : A = some ⟨g, 0, none⟩ := by injection hv
  subst hA
  refine ⟨g, 0, rfl, hlt, fun j hj => ?_⟩
  have := h.cells (g := g) rfl j (.string (zs.getD j ByteArray.empty)) (by
    rw [List.map_append, List.getElem?_append_left (by simpa using hj), List.getElem?_map, List.getElem?_eq_getElem hj]
    simp [List.getD, List.getElem?_eq_getElem hj])
  rwa [Go.WideShapes.add_plain] at this

theorem size_list (s : ByteArray) : s.data.toList.length = s.size := by rw [Array.length_toList]; rfl

theorem SRd.cells {w : World} {n₀ : Nat} {ad : Addr} {zs : List ByteArray} (h : SRd w n₀ (some ad) zs) : ∀ j u, (zs.map Value.string)[j]? = some u → w.cell? (ad.add j) = some u := fun j u hu => by
  obtain ⟨hj, hu⟩ := List.getElem?_eq_some_iff.1 hu
  have hj' : j < zs.length := by simpa using hj
  obtain ⟨b, off, e, hb, hcell⟩ := h (by omega)
  injection e with e
  subst e
  have := hcell j hj'
  rw [Go.WideShapes.add_plain, this, ← hu]
  simp [List.getD, List.getElem?_eq_getElem hj']

/-- append(own, list...), the list nil or not. -/
theorem wpList_append_list {w : World} {ops : Array Oper} {rest : List Oper} {o : Oper} {a : Act} {Q : Exit → Act → World → Prop} (hgd : o.guard = none) (s x : Operand)
    (ho : o.op = .call { callee := .builtin .append, args := #[s, x], argTypes := #[22, 22] })
    (base : Nat) (v : Value) (n : Nat) (xs : List Value) (hs : a.eval s = v) (hown : w.ownsRow base 9 1 v n xs)
    (A : Option Addr) (m c n₀ : Nat) (zs : List ByteArray) (hx : a.eval x = .slice A m c) (hm : m = zs.length) (hA : A = none → c = 0) (hr : SRd w n₀ A zs)
    (h63 : n + m ≤ 1000000) (hbase : base ≤ w.heap.size)
    (h : ∀ v' w', w'.ownsRow base 9 1 v' (n + m) (xs ++ zs.map Value.string) → w.grownBy w' v.ownBlock → wpList Try.prog ops Q rest (a.put o.dst v') w') : wpList Try.prog ops Q (o :: rest) a w := by
  obtain ⟨i0, hi, hz0, hz1, hz2⟩ := info_parts info9
  have hml : (1000000 : Nat) ≤ maxLen := by unfold maxLen; omega
  rcases A with _ | ad
  · obtain rfl : c = 0 := hA rfl
    obtain rfl : m = 0 := by
      rcases Nat.eq_zero_or_pos m with h0 | h0
      · exact h0
      · obtain ⟨_, _, h, _⟩ := hr (by omega)
        cases h
    obtain rfl : zs = [] := List.eq_nil_of_length_eq_zero hm.symm
    exact wpList_append_own_none hgd s x 22 ho base 9 i0 1 Try.underlying22 hi v n xs hs hown hx (h v w (by simpa using hown) (World.grownBy.refl w _))
  · exact wpList_append_own w hgd s x 22 ho base 9 i0 (.string ⟨#[]⟩) 1 16 Try.underlying22 hi hz0 hz1 hz2 rfl (by decide) v n xs hs hown ad m c (zs.map Value.string) hx (by rw [List.length_map]; omega) hr.cells (one_strs _) (by omega) (by omega) hbase (fun v' w' h1 h2 _ => h v' w' h1 h2)

theorem own_form {w : World} {base n : Nat} {v : Value} {xs : List Value} (h : w.ownsRow base 9 1 v n xs) : ∃ A c, v = .slice A n c := by
  rcases h.2 with ⟨hv, h0⟩ | ⟨g, cap, _, hv, _⟩
  · exact ⟨none, 0, by rw [hv, h0]⟩
  · exact ⟨_, _, hv⟩

theorem own_nil {w : World} {base n c : Nat} {A : Option Addr} {xs : List Value} (h : w.ownsRow base 9 1 (.slice A n c) n xs) : A = none → c = 0 := by
  intro hA
  subst hA
  rcases h.2 with ⟨hv, h0⟩ | ⟨g, cap, _, hv, _⟩
  · injection hv
  · injection hv with h; cases h

theorem append_list (a b : ByteArray) : (a ++ b).data.toList = a.data.toList ++ b.data.toList := by simp

theorem any_take {p : ByteArray → Bool} (zs : List ByteArray) (k : Nat) (h : k < zs.length) : (zs.take (k + 1)).any p = ((zs.take k).any p || p (zs.getD k ByteArray.empty)) := by
  have e : zs.getD k ByteArray.empty = zs[k] := by simp [List.getD, List.getElem?_eq_getElem h]
  rw [e, List.take_succ_eq_append_getElem h, List.any_append]
  simp

theorem own_below {w w' : World} {base n : Nat} {v : Value} {xs : List Value} (h : w.ownsRow base 9 1 v n xs) (hB : Below w.heap.size w w') : w'.ownsRow base 9 1 v n xs := by
  have hl := h.lt
  refine ⟨h.1, ?_⟩
  rcases h.2 with h0 | ⟨g, cap, cur, rfl, hb, hg, h1⟩
  · exact .inl h0
  · exact .inr ⟨g, cap, cur, rfl, hb, (hB.block g (hl g rfl).2).trans hg, h1⟩

end Go.Proofs.Ytdbeedhedjhamaa
