/- Lines in rows: words on memory: a row of bytes that grows. -/
import Derived.Test.YtmnehlheflfpaaaWrpPure
import Derived.Test.YtmnehlheflfpaaaWords
import Derived.Maps.RangeWalk
import Derived.Lib.AppendStr
import Derived.Lib.Strings
import Derived.OwnWalk
import Derived.Laws.NewBlocks
import Derived.Laws.AppendOwn
import Derived.Laws.IdiomStrings
import Derived.Laws.BytesArg
import Derived.ArgAppend
import Derived.BigQuiet
import Derived.Deep.QuietTactic
import Derived.Deep.AppendLies
import Derived.Deep.RegionHeld3
namespace Go.Proofs.Ytmnehlheflfpaaa.wrp
open Go.RowKit Go.Lib
set_option linter.unusedVariables false
set_option linter.unusedSimpArgs false
set_option linter.unnecessarySimpa false
set_option linter.unusedSectionVars false

def u8 (c : UInt8) : Value := .int .u8 (c.toNat : Int)
/-- Block g is just the cells cs of type t, none of them frozen. -/
def At (w : World) (g : Nat) (t : TypeId) (cs : Array Value) : Prop := w.heap[g]? = some (.cells cs t (0, 0))
section
variable {w w' : World} {g g' : Nat} {t t' : TypeId} {cs cs' : Array Value}
theorem At.lt (h : At w g t cs) : g < w.heap.size := (Array.getElem?_eq_some_iff.1 h).1
theorem At.cell (h : At w g t cs) (i : Nat) : w.cell? ⟨g, i, none⟩ = cs[i]? := cell_of_row w g i cs t (0, 0) h
theorem At.frozen (h : At w g t cs) (i : Nat) : w.frozen? ⟨g, i, none⟩ = false := by unfold At at h; simp [World.frozen?, h]
theorem At.new (w : World) (t : TypeId) (cs : Array Value) : At (w.alloc (.cells cs t)) w.heap.size t cs := heap_alloc_new w _
theorem At.alloc (h : At w g t cs) (o : Obj) : At (w.alloc o) g t cs := (Below.heap_alloc w o g h.lt).trans h
theorem At.keep {n : Nat} (h : At w g t cs) (hB : Below n w w') (hn : g < n) : At w' g t cs := (hB.block g hn).trans h
theorem At.set (h : At w g t cs) (i : Nat) (u : Value) : At (w.setCell ⟨g, i, none⟩ u) g t (cs.setIfInBounds i u) := by
  unfold At at h ⊢
  simp [World.setCell, Array.getElem?_modify, h]
end
theorem own_form' {w : World} {base n : Nat} {e : TypeId} {v : Value} {xs : List Value} (h : w.ownsRow base e 1 v n xs) : ∃ A c, v = .slice A n c ∧ (A = none → c = 0) ∧ n ≤ c := by
  rcases h.2 with ⟨hv, h0⟩ | ⟨g, cap, _, hv, _, _, h1, _⟩
  · exact ⟨none, 0, by rw [hv, h0], fun _ => rfl, by omega⟩
  · exact ⟨some ⟨g, 0, none⟩, cap, hv, (fun h => (by cases h)), h1⟩
/-- Rows of two kinds stand in two blocks. -/
theorem rows_ne {w : World} {b1 b2 n1 n2 : Nat} {e1 e2 : TypeId} {v1 v2 : Value} {x1 x2 : List Value} (h1 : w.ownsRow b1 e1 1 v1 n1 x1) (h2 : w.ownsRow b2 e2 1 v2 n2 x2) (hne : e1 ≠ e2) : v1.ownBlock = none ∨ v1.ownBlock ≠ v2.ownBlock := by
  rcases h1.2 with ⟨rfl, _⟩ | ⟨g, cap, cur, rfl, _, hg, _⟩
  · exact .inl rfl
  · right
    intro e
    rcases h2.2 with ⟨rfl, _⟩ | ⟨g2, cap2, cur2, rfl, _, hg2, _⟩
    · simp [Value.ownBlock] at e
    · have e' : g = g2 := by simpa [Value.ownBlock] using e
      subst e'
      rw [hg] at hg2
      injection hg2 with hg2
      injection hg2 with _ ht
      exact hne ht
/-- What a row of one's own holds, read behind its address. -/
theorem own_cells {w : World} {base n c : Nat} {e : TypeId} {A : Option Addr} {xs : List Value} (h : w.ownsRow base e 1 (.slice A n c) n xs) (hn : 0 < n) : ∃ g cs, A = some ⟨g, 0, none⟩ ∧ base ≤ g ∧ At w g e cs ∧ ∀ (j : Nat) u, xs[j]? = some u → cs[j]? = some u := by
  rcases h.2 with ⟨hv, h0⟩ | ⟨g, cap, cur, hv, hg, hh, _⟩
  · omega
  · injection hv with hA
    subst hA
    refine ⟨g, cur, rfl, hg, hh, fun j u hj => ?_⟩
    have := h.cells (g := g) rfl j u hj
    rw [Go.WideShapes.add_plain, Nat.zero_add] at this
    rw [← At.cell hh j]; exact this

/-- The row v of the bytes xs is one's own; since w0 nothing has turned but the row that it was then (r0), and new blocks. -/
structure Buf (base : Nat) (r0 : Option Nat) (w0 w : World) (v : Value) (xs : List UInt8) : Prop where
  own : w.ownsRow base 5 1 v xs.length (xs.map u8)
  grown : w0.grownBy w r0
  goes : ∀ j, v.ownBlock = some j → w0.heap.size ≤ j ∨ r0 = some j
theorem Buf.start {base : Nat} {w : World} {v : Value} {xs : List UInt8} (h : w.ownsRow base 5 1 v xs.length (xs.map u8)) : Buf base v.ownBlock w w v xs := ⟨h, World.grownBy.refl _ _, fun j e => .inr e⟩
theorem info5 : (Try.prog.info? 5).map (fun i => (i.size, i.bytes, i.zero)) = some (1, 1, some (.int .u8 0)) := by kernel_rfl
theorem info3 : (Try.prog.info? 3).map (fun i => (i.size, i.bytes, i.zero)) = some (1, 8, some (.int .i64 0)) := by kernel_rfl
theorem info_parts {t : TypeId} {n b : Nat} {z : Value} (h : (Try.prog.info? t).map (fun i => (i.size, i.bytes, i.zero)) = some (n, b, some z)) : ∃ i, Try.prog.info? t = some i ∧ i.size = n ∧ i.bytes = b ∧ i.zero = some z := by
  cases hi : Try.prog.info? t with
  | none => rw [hi] at h; cases h
  | some i =>
    rw [hi] at h
    simp only [Option.map_some, Option.some.injEq, Prod.mk.injEq] at h
    exact ⟨i, rfl, h.1, h.2.1, h.2.2⟩
theorem wpList_buf {ops : Array Oper} {rest : List Oper} {o : Oper} {a : Act} {Q : Exit → Act → World → Prop} {base : Nat} {r0 : Option Nat} {w0 w : World} {v : Value} {xs : List UInt8} {cs : Array Value} (hgd : o.guard = none) (s x : Operand)
    (ho : o.op = .call { callee := .builtin .append, args := #[s, x], argTypes := #[37, 37] }) (hb : Buf base r0 w0 w v xs) (hs : a.eval s = v) (news : List UInt8) (hcs : cs.toList = news.map u8)
    (H : Nat) (hH : w.heap.size = H) (m : Nat) (hx : a.eval x = .slice (some ⟨H, 0, none⟩) m m) (hm : m = news.length) (h0 : 0 < news.length) (h63 : xs.length + news.length ≤ 100000000) (hbase : base ≤ w.heap.size)
    (h : ∀ g cap w', Buf base r0 w0 w' (.slice (some ⟨g, 0, none⟩) (xs.length + news.length) cap) (xs ++ news) → wpList Try.prog ops Q rest (a.put o.dst (.slice (some ⟨g, 0, none⟩) (xs.length + news.length) cap)) w') : wpList Try.prog ops Q (o :: rest) a (w.alloc (.cells cs 5)) := by
  obtain ⟨i0, hi, hz1, hz2, hz0⟩ := info_parts info5
  have hml : (100000000 : Nat) ≤ maxLen := by unfold maxLen; omega
  subst hH hm
  have hsz := hb.grown.size
  refine wpList_append_lies _ hgd s x 37 ho base 5 i0 (.int .u8 0) 1 1 Try.underlying37 hi hz0 hz1 hz2 rfl (by decide) v xs.length _ hs (hb.own.alloc _) ⟨w.heap.size, 0, none⟩ news.length news.length (news.map u8) hx (by rw [List.length_map]; omega) (fun j u hu => by
      rw [Go.WideShapes.add_plain, Nat.zero_add, (At.new w 5 cs).cell j, ← Array.getElem?_toList, hcs]; exact hu) (fun u hu => by obtain ⟨y, _, rfl⟩ := List.mem_map.1 hu; rfl) h0 (by omega) (by omega) (by simp; omega) _ rfl ?_
  intro g cap w' h1 h2 h3 h4
  refine h g cap w' ⟨by rw [List.length_append, List.map_append]; exact h1, ?_, ?_⟩
  · exact hb.grown.andThen ((World.grownBy_alloc w _ v.ownBlock).trans h2) hb.goes
  · intro j hj
    have hj' : g = j := by simpa [Value.ownBlock] using hj
    subst hj'
    rcases h3 with h3 | h3
    · exact hb.goes g h3
    · left; rw [h3]; simp; omega
end Go.Proofs.Ytmnehlheflfpaaa.wrp
