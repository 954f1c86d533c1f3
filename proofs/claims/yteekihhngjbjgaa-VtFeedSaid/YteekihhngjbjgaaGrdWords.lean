/- Grids: words on memory: rows of bytes behind an address, in blocks of a stretch; rows that are one's own. -/
import Derived.Test.YteekihhngjbjgaaGrdPure
import Derived.Test.YteekihhngjbjgaaWords
import Derived.Lib.AppendStr
import Derived.Lib.Strings
import Derived.OwnWalk
import Derived.Laws.NewBlocks
import Derived.Laws.AppendOwn
import Derived.Laws.AppendOwnNone
import Derived.Laws.IdiomStrings
import Derived.Laws.BytesArg
import Derived.Laws.CopyOwn
import Derived.BigQuiet
import Derived.Deep.QuietTactic
import Derived.Deep.MidRow
import Derived.Deep.RegionHeld3
namespace Go.Proofs.Yteekihhngjbjgaa.grd
open Go.RowKit Go.Lib
set_option linter.unusedVariables false
set_option linter.unusedSimpArgs false
set_option linter.unnecessarySimpa false
set_option linter.unusedSectionVars false

/-- Block g is just the cells cs of type t, none of them frozen. -/
def At (w : World) (g : Nat) (t : TypeId) (cs : Array Value) : Prop := w.heap[g]? = some (.cells cs t (0, 0))
section
variable {w w' : World} {g g' : Nat} {t t' : TypeId} {cs cs' : Array Value}
theorem At.lt (h : At w g t cs) : g < w.heap.size := (Array.getElem?_eq_some_iff.1 h).1
theorem At.cell (h : At w g t cs) (i : Nat) : w.cell? ⟨g, i, none⟩ = cs[i]? := cell_of_row w g i cs t (0, 0) h
theorem At.frozen (h : At w g t cs) (i : Nat) : w.frozen? ⟨g, i, none⟩ = false := by unfold At at h; simp [World.frozen?, h]
theorem At.new (w : World) (t : TypeId) (cs : Array Value) : At (w.alloc (.cells cs t)) w.heap.size t cs := heap_alloc_new w _
theorem At.alloc (h : At w g t cs) (o : Obj) : At (w.alloc o) g t cs := (Below.heap_alloc w o g h.lt).trans h
theorem At.same (h : At w g t cs) (hb : w'.heap[g]? = w.heap[g]?) : At w' g t cs := hb.trans h
theorem At.keep {n : Nat} (h : At w g t cs) (hB : Below n w w') (hn : g < n) : At w' g t cs := (hB.block g hn).trans h
theorem At.set (h : At w g t cs) (i : Nat) (u : Value) : At (w.setCell ⟨g, i, none⟩ u) g t (cs.setIfInBounds i u) := by
  unfold At at h ⊢
  simp [World.setCell, Array.getElem?_modify, h]
theorem At.far (h : At w g t cs) {p : Addr} (hp : g ≠ p.block) (u : Value) : At (w.setCell p u) g t cs := (Below.heap_setCell w p u g hp).trans h
theorem own_form' {base n : Nat} {e : TypeId} {v : Value} {xs : List Value} (h : w.ownsRow base e 1 v n xs) : ∃ A c, v = .slice A n c ∧ (A = none → c = 0) ∧ n ≤ c := by
  rcases h.2 with ⟨hv, h0⟩ | ⟨g, cap, _, hv, _, _, h1, _⟩
  · exact ⟨none, 0, by rw [hv, h0], fun _ => rfl, by omega⟩
  · exact ⟨some ⟨g, 0, none⟩, cap, hv, (fun h => (by cases h)), h1⟩
/-- A row of one's own: the block that it is. -/
theorem own_block {base n c : Nat} {e : TypeId} {A : Option Addr} {xs : List Value} (h : w.ownsRow base e 1 (.slice A n c) n xs) (hn : 0 < n) : ∃ g cs, A = some ⟨g, 0, none⟩ ∧ base ≤ g ∧ At w g e cs ∧ ∀ (j : Nat) u, xs[j]? = some u → cs[j]? = some u := by
  rcases h.2 with ⟨hv, h0⟩ | ⟨g, cap, cur, hv, hg, hh, _⟩
  · omega
  · injection hv with hA
    subst hA
    refine ⟨g, cur, rfl, hg, hh, fun j u hj => ?_⟩
    have := h.cells (g := g) rfl j u hj
    rw [Go.WideShapes.add_plain, Nat.zero_add] at this
    rw [← At.cell hh j]; exact this
end

/-- Behind the address A the values vs stand, in a block of the stretch from lo up to hi. -/
def VRd (w : World) (lo hi : Nat) (A : Option Addr) (vs : List Value) : Prop :=
  0 < vs.length → ∃ b off, A = some ⟨b, off, none⟩ ∧ lo ≤ b ∧ b < hi ∧ ∀ (j : Nat) u, vs[j]? = some u → w.cell? ⟨b, off + j, none⟩ = some u
def u8 (c : UInt8) : Value := .int .u8 (c.toNat : Int)
/-- v is a slice of the bytes l. -/
def Gl (w : World) (lo hi : Nat) (v : Value) (l : List UInt8) : Prop :=
  ∃ A c, v = .slice A l.length c ∧ (A = none → c = 0) ∧ l.length ≤ maxLen ∧ VRd w lo hi A (l.map u8)
/-- A slice of rows of bytes. -/
structure Gr (w : World) (lo hi : Nat) (A : Option Addr) (n c : Nat) (ls : List (List UInt8)) : Prop where
  len : n = ls.length
  nil : A = none → c = 0
  max : n ≤ maxLen
  row : ∃ vs, vs.length = ls.length ∧ VRd w lo hi A vs ∧ ∀ (i : Nat) v l, vs[i]? = some v → ls[i]? = some l → Gl w lo hi v l

section
variable {w w' : World} {lo hi lo' hi' : Nat} {A : Option Addr} {n c : Nat} {vs : List Value} {v : Value} {l : List UInt8} {ls : List (List UInt8)}
theorem VRd.nil : VRd w lo hi A [] := fun h => absurd h (by simp)
theorem VRd.keep (h : VRd w lo hi A vs) (hk : ∀ b, lo ≤ b → b < hi → w'.heap[b]? = w.heap[b]?) : VRd w' lo hi A vs := fun hn => by
  obtain ⟨b, off, e, h1, h2, hc⟩ := h hn
  exact ⟨b, off, e, h1, h2, fun j u hj => (World.cell?_of_block (hk b h1 h2)).trans (hc j u hj)⟩
theorem VRd.mono (h : VRd w lo hi A vs) (h1 : lo' ≤ lo) (h2 : hi ≤ hi') : VRd w lo' hi' A vs := fun hn => by
  obtain ⟨b, off, e, h3, h4, hc⟩ := h hn
  exact ⟨b, off, e, by omega, by omega, hc⟩
theorem Gl.keep (h : Gl w lo hi v l) (hk : ∀ b, lo ≤ b → b < hi → w'.heap[b]? = w.heap[b]?) : Gl w' lo hi v l := by
  obtain ⟨A, c, e, h1, h2, h3⟩ := h
  exact ⟨A, c, e, h1, h2, h3.keep hk⟩
theorem Gl.mono (h : Gl w lo hi v l) (h1 : lo' ≤ lo) (h2 : hi ≤ hi') : Gl w lo' hi' v l := by
  obtain ⟨A, c, e, a1, a2, a3⟩ := h
  exact ⟨A, c, e, a1, a2, a3.mono h1 h2⟩
theorem Gr.keep (h : Gr w lo hi A n c ls) (hk : ∀ b, lo ≤ b → b < hi → w'.heap[b]? = w.heap[b]?) : Gr w' lo hi A n c ls := by
  obtain ⟨h1, h2, h3, vs, h4, h5, h6⟩ := h
  exact ⟨h1, h2, h3, vs, h4, h5.keep hk, fun i v l a b => (h6 i v l a b).keep hk⟩
theorem Gr.mono (h : Gr w lo hi A n c ls) (h1 : lo' ≤ lo) (h2 : hi ≤ hi') : Gr w lo' hi' A n c ls := by
  obtain ⟨a1, a2, a3, vs, a4, a5, a6⟩ := h
  exact ⟨a1, a2, a3, vs, a4, a5.mono h1 h2, fun i v l a b => (a6 i v l a b).mono h1 h2⟩
theorem Gr.below {N : Nat} (h : Gr w lo hi A n c ls) (hB : Below N w w') (hn : hi ≤ N) : Gr w' lo hi A n c ls := h.keep fun b _ h2 => hB.block b (by omega)
theorem Gr.zero : Gr w lo hi none 0 0 [] := ⟨rfl, fun _ => rfl, Nat.zero_le _, [], rfl, VRd.nil, fun i v l h => by simp at h⟩
/-- One row: its slice stands in the list, its bytes behind it. -/
theorem Gr.at (h : Gr w lo hi A n c ls) (i : Nat) (l : List UInt8) (hi' : ls[i]? = some l) : ∃ b off B d, A = some ⟨b, off, none⟩ ∧ lo ≤ b ∧ b < hi ∧ w.cell? ⟨b, off + i, none⟩ = some (.slice B l.length d) ∧ (B = none → d = 0) ∧ l.length ≤ maxLen ∧ VRd w lo hi B (l.map u8) := by
  obtain ⟨h1, h2, h3, vs, h4, h5, h6⟩ := h
  have hlt := (List.getElem?_eq_some_iff.1 hi').1
  obtain ⟨b, off, e, a1, a2, a3⟩ := h5 (by omega)
  obtain ⟨v, hv⟩ : ∃ v, vs[i]? = some v := ⟨_, List.getElem?_eq_getElem (by omega)⟩
  obtain ⟨B, d, rfl, g1, g2, g3⟩ := h6 i v l hv hi'
  exact ⟨b, off, B, d, e, a1, a2, a3 i _ hv, g1, g2, g3⟩
/-- One byte. -/
theorem VRd.at {B : Option Addr} (h : VRd w lo hi B (l.map u8)) (k : Nat) (x : UInt8) (hk : l[k]? = some x) : ∃ b off, B = some ⟨b, off, none⟩ ∧ lo ≤ b ∧ b < hi ∧ w.cell? ⟨b, off + k, none⟩ = some (.int .u8 (x.toNat : Int)) := by
  obtain ⟨b, off, e, h1, h2, h3⟩ := h (by rw [List.length_map]; have := (List.getElem?_eq_some_iff.1 hk).1; omega)
  exact ⟨b, off, e, h1, h2, h3 k _ (by rw [List.getElem?_map, hk]; rfl)⟩
/-- The bytes as a text. -/
theorem VRd.conv {B : Option Addr} {d : Nat} (h : VRd w lo hi B (l.map u8)) : (convert 39 9 (.slice B l.length d)).run Try.prog w = .ok (.string (Go.Proofs.Yteekihhngjbjgaa.B l)) w := by
  rcases Nat.eq_zero_or_pos l.length with h0 | h0
  · obtain rfl : l = [] := List.eq_nil_of_length_eq_zero h0
    cases B with
    | none => exact run_convert_bytes_nil w 39 5 Try.underlying39 Try.underlying5 0 d 9 Try.underlying9
    | some a => exact run_convert_bytes_back (P := Try.prog) w 39 9 5 a d [] Try.underlying39 Try.underlying5 Try.underlying9 (fun j hj => by simp at hj)
  · obtain ⟨b, off, rfl, _, _, hc⟩ := h (by simpa using h0)
    exact run_convert_bytes_back (P := Try.prog) w 39 9 5 ⟨b, off, none⟩ d l Try.underlying39 Try.underlying5 Try.underlying9 (fun j hj => by
      rw [Go.WideShapes.add_plain, hc j (.int .u8 (l[j].toNat : Int)) (by rw [List.getElem?_map, List.getElem?_eq_getElem hj]; rfl)])
end

/-- Gr that are one's own: the list in one block, each row that is not empty in another one of its own. -/
structure Own (w : World) (lo hi : Nat) (A : Option Addr) (n c : Nat) (ls : List (List UInt8)) : Prop where
  len : n = ls.length
  nil : A = none → c = 0
  fits : n ≤ c
  own : ∃ (h : Nat) (hs : Array Value) (f : Nat → Nat), (0 < n → A = some ⟨h, 0, none⟩ ∧ lo ≤ h ∧ h < hi ∧ At w h 39 hs) ∧
    (∀ (i : Nat) l, ls[i]? = some l → ∃ B d, hs[i]? = some (.slice B l.length d) ∧ (B = none → d = 0) ∧ (0 < l.length → B = some ⟨f i, 0, none⟩ ∧ f i ≠ h ∧ lo ≤ f i ∧ f i < hi ∧ ∃ cs, At w (f i) 5 cs ∧ ∀ (j : Nat) u, (l.map u8)[j]? = some u → cs[j]? = some u)) ∧
    ∀ (i j : Nat) l l', ls[i]? = some l → ls[j]? = some l' → 0 < l.length → 0 < l'.length → f i = f j → i = j

section
variable {w w' : World} {lo hi lo' hi' : Nat} {A : Option Addr} {n c : Nat} {ls : List (List UInt8)}
theorem Own.keep (h : Own w lo hi A n c ls) (hk : ∀ b, lo ≤ b → b < hi → w'.heap[b]? = w.heap[b]?) : Own w' lo hi A n c ls := by
  obtain ⟨h1, h2, h0, hh, hs, f, h3, h4, h5⟩ := h
  refine ⟨h1, h2, h0, hh, hs, f, fun hn => ?_, fun i l hi => ?_, h5⟩
  · obtain ⟨a1, a2, a3, a4⟩ := h3 hn
    exact ⟨a1, a2, a3, a4.same (hk _ a2 a3)⟩
  · obtain ⟨B, d, a1, a2, a3⟩ := h4 i l hi
    refine ⟨B, d, a1, a2, fun hl => ?_⟩
    obtain ⟨b1, b2, b3, b4, cs, b5, b6⟩ := a3 hl
    exact ⟨b1, b2, b3, b4, cs, b5.same (hk _ b3 b4), b6⟩
theorem Own.below {N : Nat} (h : Own w lo hi A n c ls) (hB : Below N w w') (hn : hi ≤ N) : Own w' lo hi A n c ls := h.keep fun b _ h2 => hB.block b (by omega)
theorem Own.mono (h : Own w lo hi A n c ls) (h1 : lo' ≤ lo) (h2 : hi ≤ hi') : Own w lo' hi' A n c ls := by
  obtain ⟨a1, a2, a0, hh, hs, f, a3, a4, a5⟩ := h
  refine ⟨a1, a2, a0, hh, hs, f, fun hn => ?_, fun i l hi => ?_, a5⟩
  · obtain ⟨b1, b2, b3, b4⟩ := a3 hn
    exact ⟨b1, by omega, by omega, b4⟩
  · obtain ⟨B, d, b1, b2, b3⟩ := a4 i l hi
    refine ⟨B, d, b1, b2, fun hl => ?_⟩
    obtain ⟨c1, c2, c3, c4, c5⟩ := b3 hl
    exact ⟨c1, c2, by omega, by omega, c5⟩
/-- Gr of one's own are rows. -/
theorem Own.rows (h : Own w lo hi A n c ls) (hf : few ls) : Gr w lo hi A n c ls := by
  obtain ⟨h1, h2, h0, hh, hs, f, h3, h4, h5⟩ := h
  have hm : (20000 : Nat) ≤ maxLen := by unfold maxLen; omega
  refine ⟨h1, h2, by have := hf.1; omega, (List.range ls.length).map (fun i => hs.getD i undef), by simp, fun hn => ?_, fun i v l hv hl => ?_⟩
  · obtain ⟨a1, a2, a3, a4⟩ := h3 (by simpa [h1] using hn)
    refine ⟨hh, 0, a1, a2, a3, fun j u hj => ?_⟩
    have hjl : j < ls.length := by have := (List.getElem?_eq_some_iff.1 hj).1; simpa using this
    obtain ⟨B, d, b1, _⟩ := h4 j _ (List.getElem?_eq_getElem hjl)
    rw [List.getElem?_map, List.getElem?_range hjl, Option.map_some, Option.some.injEq, Array.getD_eq_getD_getElem?, b1, Option.getD_some] at hj
    rw [Nat.zero_add, a4.cell j, b1, hj]
  · have hil := (List.getElem?_eq_some_iff.1 hl).1
    obtain ⟨B, d, b1, b2, b3⟩ := h4 i l hl
    rw [List.getElem?_map, List.getElem?_range hil, Option.map_some, Option.some.injEq, Array.getD_eq_getD_getElem?, b1, Option.getD_some] at hv
    refine ⟨B, d, hv.symm, b2, by have := hf.2 l (List.mem_of_getElem? hl); omega, fun hn => ?_⟩
    obtain ⟨c1, c2, c3, c4, cs, c5, c6⟩ := b3 (by simpa using hn)
    exact ⟨f i, 0, c1, c3, c4, fun j u hj => by rw [Nat.zero_add, c5.cell j]; exact c6 j u hj⟩
/-- Where one byte stands, and that it may be written. -/
theorem Own.spot (h : Own w lo hi A n c ls) (i k : Nat) (l : List UInt8) (x : UInt8) (hl : ls[i]? = some l) (hx : l[k]? = some x) :
    ∃ hb b d, A = some ⟨hb, 0, none⟩ ∧ w.cell? ⟨hb, i, none⟩ = some (.slice (some ⟨b, 0, none⟩) l.length d) ∧ w.cell? ⟨b, k, none⟩ = some (.int .u8 (x.toNat : Int)) ∧ w.frozen? ⟨b, k, none⟩ = false ∧ lo ≤ b ∧ b < hi ∧ lo ≤ hb ∧ hb < hi ∧
      ∀ y : UInt8, Own (w.setCell ⟨b, k, none⟩ (.int .u8 (y.toNat : Int))) lo hi A n c (setAt ls i k y) := by
  obtain ⟨h1, h2, h0, hh, hs, f, h3, h4, h5⟩ := h
  have hil := (List.getElem?_eq_some_iff.1 hl).1
  have hkl := (List.getElem?_eq_some_iff.1 hx).1
  obtain ⟨a1, a2, a3, a4⟩ := h3 (by omega)
  obtain ⟨B, d, b1, b2, b3⟩ := h4 i l hl
  obtain ⟨c1, c2, c3, c4, cs, c5, c6⟩ := b3 (by omega)
  subst c1
  have hcell : cs[k]? = some (.int .u8 (x.toNat : Int)) := c6 k _ (by rw [List.getElem?_map, hx]; rfl)
  refine ⟨hh, f i, d, a1, by rw [a4.cell i, b1], by rw [c5.cell k, hcell], c5.frozen k, c3, c4, a2, a3, fun y => ?_⟩
  refine ⟨by rw [setAt_len]; exact h1, h2, h0, hh, hs, f, fun hn => ⟨a1, a2, a3, a4.far (fun e => c2 e.symm) _⟩, fun j l' hj => ?_, fun j j' l1 l2 e1 e2 p1 p2 e => ?_⟩
  · rw [setAt_get] at hj
    by_cases hji : j = i
    · subst hji
      rw [if_pos rfl, hl, Option.map_some, Option.some.injEq] at hj
      subst hj
      refine ⟨_, d, by rw [List.length_set]; exact b1, b2, fun _ => ⟨rfl, c2, c3, c4, _, c5.set k _, fun q u hq => ?_⟩⟩
      rw [List.getElem?_map] at hq
      rw [Array.getElem?_setIfInBounds]
      by_cases hqk : k = q
      · subst hqk
        rw [List.getElem?_set_self hkl, Option.map_some, Option.some.injEq] at hq
        rw [if_pos rfl, if_pos (Array.getElem?_eq_some_iff.1 hcell).1, ← hq]; rfl
      · rw [if_neg hqk]
        rw [List.getElem?_set_ne hqk] at hq
        exact c6 q u (by rw [List.getElem?_map]; exact hq)
    · rw [if_neg hji] at hj
      obtain ⟨B', d', g1, g2, g3⟩ := h4 j l' hj
      refine ⟨B', d', g1, g2, fun hp => ?_⟩
      obtain ⟨e1, e2, e3, e4, cs', e5, e6⟩ := g3 hp
      exact ⟨e1, e2, e3, e4, cs', e5.far (fun e => hji (h5 j i l' l hj hl hp (by omega) e)) _, e6⟩
  · rw [setAt_get] at e1 e2
    have q : ∀ (j : Nat) l1, (if j = i then (ls[j]?).map (fun l => l.set k y) else ls[j]?) = some l1 → ∃ l2, ls[j]? = some l2 ∧ l2.length = l1.length := by
      intro j l1 hq
      split at hq
      · cases hq' : ls[j]? with
        | none => rw [hq'] at hq; cases hq
        | some l2 =>
          rw [hq', Option.map_some, Option.some.injEq] at hq
          exact ⟨l2, rfl, by rw [← hq, List.length_set]⟩
      · exact ⟨l1, hq, rfl⟩
    obtain ⟨m1, n1, o1⟩ := q j l1 e1
    obtain ⟨m2, n2, o2⟩ := q j' l2 e2
    exact h5 j j' m1 m2 n1 n2 (by omega) (by omega) e
theorem Own.zero {A : Option Addr} (h : A = none → c = 0) : Own w lo hi A 0 c [] := ⟨rfl, h, Nat.zero_le _, 0, #[], fun _ => 0, fun h => absurd h (by omega), fun i l h => by simp at h, fun i j l l' h => by simp at h⟩
end
theorem info5 : (Try.prog.info? 5).map (fun i => (i.zero, i.size, i.bytes)) = some (some (.int .u8 0), 1, 1) := by kernel_rfl
theorem info32 : (Try.prog.info? 39).map (fun i => (i.zero, i.size, i.bytes)) = some (some (.slice none 0 0), 1, 24) := by kernel_rfl
theorem info9 : (Try.prog.info? 9).map (fun i => (i.zero, i.size, i.bytes)) = some (some (.string ⟨#[]⟩), 1, 16) := by kernel_rfl
end Go.Proofs.Yteekihhngjbjgaa.grd
