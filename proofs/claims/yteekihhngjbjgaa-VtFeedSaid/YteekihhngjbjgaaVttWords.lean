/- Terminals: words on memory: rows that may be written, all bytes in one block; a terminal's block; what of a world has turned. -/
import Derived.Test.YteekihhngjbjgaaVttPure
import Derived.Test.YteekihhngjbjgaaGrdCells
import Derived.Test.YteekihhngjbjgaaGrdSame
import Derived.StillTailTactics
namespace Go.Proofs.Yteekihhngjbjgaa.vtt
open Go.RowKit Go.Lib Go.Proofs.Yteekihhngjbjgaa.grd
set_option linter.unusedVariables false
set_option linter.unusedSimpArgs false
set_option linter.unnecessarySimpa false
set_option linter.unusedSectionVars false

theorem _root_.Go.Proofs.Yteekihhngjbjgaa.grd.But.refl (b : Nat) (w : World) : But b w w := ⟨rfl, rfl, rfl, rfl, fun _ _ => rfl⟩
theorem _root_.Go.Proofs.Yteekihhngjbjgaa.grd.But.trans {b : Nat} {w w' w'' : World} (h : But b w w') (h' : But b w' w'') : But b w w'' := ⟨h'.os.trans h.os, h'.tape.trans h.tape, h'.output.trans h.output, h'.size.trans h.size, fun k hk => (h'.block k hk).trans (h.block k hk)⟩
theorem _root_.Go.Proofs.Yteekihhngjbjgaa.grd.But.setCell {b : Nat} {w w' : World} (h : But b w w') (i : Nat) (v : Value) : But b w (w'.setCell ⟨b, i, none⟩ v) :=
  ⟨h.os, h.tape, h.output, by rw [← h.size]; simp [World.setCell], fun k hk => (Below.heap_setCell w' ⟨b, i, none⟩ v k hk).trans (h.block k hk)⟩
theorem _root_.Go.Proofs.Yteekihhngjbjgaa.grd.But.drew {b : Nat} {w w' : World} (h : But b w w') : But b w w'.drew := ⟨h.os, h.tape, h.output, h.size, h.block⟩
theorem _root_.Go.Proofs.Yteekihhngjbjgaa.grd.But.drewN {b : Nat} {w w' : World} (h : But b w w') (n : Nat) : But b w (w'.drewN n) := ⟨h.os, h.tape, h.output, h.size, h.block⟩
/-- Of what stood in a world only blocks from lo up to hi may have turned. -/
structure Tn (lo hi : Nat) (w w' : World) : Prop where
  os : w'.os = w.os
  tape : w'.tape = w.tape
  output : w'.output = w.output
  size : w.heap.size ≤ w'.heap.size
  block : ∀ k, k < w.heap.size → k < lo ∨ hi ≤ k → w'.heap[k]? = w.heap[k]?
section
variable {lo hi lo' hi' b n : Nat} {w w' w'' : World}
theorem Tn.refl (lo hi : Nat) (w : World) : Tn lo hi w w := ⟨rfl, rfl, rfl, Nat.le_refl _, fun _ _ _ => rfl⟩
theorem Tn.trans (h : Tn lo hi w w') (h' : Tn lo hi w' w'') : Tn lo hi w w'' := ⟨h'.os.trans h.os, h'.tape.trans h.tape, h'.output.trans h.output, Nat.le_trans h.size h'.size, fun k hk hx => (h'.block k (Nat.lt_of_lt_of_le hk h.size) hx).trans (h.block k hk hx)⟩
theorem Tn.mono (h : Tn lo hi w w') (h1 : lo' ≤ lo) (h2 : hi ≤ hi') : Tn lo' hi' w w' := ⟨h.os, h.tape, h.output, h.size, fun k hk hx => h.block k hk (by omega)⟩
theorem Tn.of_but (h : But b w w') (h1 : lo ≤ b) (h2 : b < hi) : Tn lo hi w w' := ⟨h.os, h.tape, h.output, by rw [h.size]; exact Nat.le_refl _, fun k _ hx => h.block k (by omega)⟩
theorem Tn.of_below (h : Below n w w') (hn : w.heap.size ≤ n) : Tn lo hi w w' := ⟨h.os, h.tape, h.output, h.size, fun k hk _ => h.block k (by omega)⟩
theorem Tn.below (h : Tn lo hi w w') (hn : n ≤ lo) (hs : n ≤ w.heap.size) : Below n w w' := ⟨h.os, h.tape, h.output, h.size, fun k hk => h.block k (by omega) (by omega)⟩
theorem Tn.at {g : Nat} {t : TypeId} {cs : Array Value} (h : Tn lo hi w w') (hA : At w g t cs) (hx : g < lo ∨ hi ≤ g) : At w' g t cs := (h.block g hA.lt hx).trans hA
theorem Tn.drew (h : Tn lo hi w w') : Tn lo hi w w'.drew := ⟨h.os, h.tape, h.output, h.size, h.block⟩
theorem Tn.drewN (h : Tn lo hi w w') (k : Nat) : Tn lo hi w (w'.drewN k) := ⟨h.os, h.tape, h.output, h.size, h.block⟩
/-- Rows that stand elsewhere. -/
theorem Tn.gr {a c k d : Nat} {A : Option Addr} {ls : List (List UInt8)} (h : Tn lo hi w w') (hG : Gr w a c A k d ls) (hc : c ≤ w.heap.size) (hx : c ≤ lo ∨ hi ≤ a) : Gr w' a c A k d ls := hG.keep fun b h1 h2 => h.block b (by omega) (by omega)
theorem Tn.own {a c k d : Nat} {A : Option Addr} {ls : List (List UInt8)} (h : Tn lo hi w w') (hG : Own w a c A k d ls) (hc : c ≤ w.heap.size) (hx : c ≤ lo ∨ hi ≤ a) : Own w' a c A k d ls := hG.keep fun b h1 h2 => h.block b (by omega) (by omega)
end

/-- Cells made blanks: a stretch; many. -/
def fill1 (cs : Array Value) (o l : Nat) : Array Value := (List.range l).foldl (fun cs i => cs.setIfInBounds (o + i) (u8 32)) cs
def fills (cs : Array Value) (st : List (Nat × Nat)) : Array Value := st.foldl (fun cs p => fill1 cs p.1 p.2) cs
def inSt (st : List (Nat × Nat)) (x : Nat) : Bool := st.any fun q => decide (q.1 ≤ x) && decide (x < q.1 + q.2)
theorem fill1_zero (cs : Array Value) (o : Nat) : fill1 cs o 0 = cs := rfl
theorem fill1_succ (cs : Array Value) (o l : Nat) : fill1 cs o (l + 1) = (fill1 cs o l).setIfInBounds (o + l) (u8 32) := by
  unfold fill1; rw [List.range_succ, List.foldl_append]; rfl
theorem fill1_size (cs : Array Value) (o l : Nat) : (fill1 cs o l).size = cs.size := by
  induction l with
  | zero => rfl
  | succ l ih => rw [fill1_succ, Array.size_setIfInBounds, ih]
theorem fill1_get (cs : Array Value) (o l x : Nat) : (fill1 cs o l)[x]? = if (decide (o ≤ x) && decide (x < o + l)) = true ∧ x < cs.size then some (u8 32) else cs[x]? := by
  induction l with
  | zero => rw [fill1_zero, if_neg]; simp; omega
  | succ l ih =>
    rw [fill1_succ, Array.getElem?_setIfInBounds, fill1_size, ih]
    by_cases h : o + l = x
    · rw [if_pos h]
      by_cases hx : x < cs.size
      · rw [if_pos (by omega), if_pos ⟨by simp; omega, hx⟩]
      · rw [if_neg (by omega), if_neg (fun e => hx e.2), Array.getElem?_eq_none (Nat.le_of_not_lt hx)]
    · rw [if_neg h]
      by_cases hx : (decide (o ≤ x) && decide (x < o + l)) = true ∧ x < cs.size
      · rw [if_pos hx, if_pos]
        simp at hx ⊢; omega
      · rw [if_neg hx, if_neg]
        simp at hx ⊢; omega
theorem fills_nil (cs : Array Value) : fills cs [] = cs := rfl
theorem fills_snoc (cs : Array Value) (st : List (Nat × Nat)) (p : Nat × Nat) : fills cs (st ++ [p]) = fill1 (fills cs st) p.1 p.2 := by
  unfold fills; rw [List.foldl_append]; rfl
theorem fills_size (cs : Array Value) (st : List (Nat × Nat)) : (fills cs st).size = cs.size := by
  induction st generalizing cs with
  | nil => rfl
  | cons p st ih => exact (ih _).trans (fill1_size _ _ _)
theorem fills_get (cs : Array Value) (st : List (Nat × Nat)) (x : Nat) : (fills cs st)[x]? = if inSt st x = true ∧ x < cs.size then some (u8 32) else cs[x]? := by
  induction st generalizing cs with
  | nil => rw [fills_nil, if_neg]; simp [inSt]
  | cons p st ih =>
    show (fills (fill1 cs p.1 p.2) st)[x]? = _
    rw [ih, fill1_size, fill1_get]
    have e : inSt (p :: st) x = ((decide (p.1 ≤ x) && decide (x < p.1 + p.2)) || inSt st x) := rfl
    rw [e]
    cases h1 : (decide (p.1 ≤ x) && decide (x < p.1 + p.2)) <;> cases h2 : inSt st x <;> by_cases hx : x < cs.size <;> simp [hx]

/-- The rows of a terminal: the list in block h, all bytes in block g, row i from o i on. -/
structure Wr (w : World) (h g n m : Nat) (ls : List (List UInt8)) (hs cs : Array Value) (o : Nat → Nat) : Prop where
  list : At w h 39 hs
  data : At w g 5 cs
  row : ∀ i, i < n → hs[i]? = some (.slice (some ⟨g, o i, none⟩) m m)
  byte : ∀ (i : Nat) l (j : Nat) c, ls[i]? = some l → l[j]? = some c → cs[o i + j]? = some (u8 c)
  apart : ∀ i j, i < n → j < n → i ≠ j → o i + m ≤ o j ∨ o j + m ≤ o i
  len : ls.length = n
  wide : ∀ l ∈ ls, l.length = m
section
variable {w w' : World} {h g n m : Nat} {ls : List (List UInt8)} {hs cs : Array Value} {o : Nat → Nat}
theorem Wr.keep (H : Wr w h g n m ls hs cs o) (h1 : w'.heap[h]? = w.heap[h]?) (h2 : w'.heap[g]? = w.heap[g]?) : Wr w' h g n m ls hs cs o := ⟨H.list.same h1, H.data.same h2, H.row, H.byte, H.apart, H.len, H.wide⟩
/-- Rows that are read. -/
theorem Wr.gr (H : Wr w h g n m ls hs cs o) {lo hi : Nat} (h1 : lo ≤ h ∧ h < hi) (h2 : lo ≤ g ∧ g < hi) (hn : n ≤ maxLen) (hm : m ≤ maxLen) : Gr w lo hi (some ⟨h, 0, none⟩) n n ls := by
  refine ⟨H.len.symm, (fun h => (by cases h)), hn, (List.range n).map (fun i => .slice (some ⟨g, o i, none⟩) m m), by simp [H.len], fun _ => ⟨h, 0, rfl, h1.1, h1.2, fun j u hj => ?_⟩, fun i v l hv hl => ?_⟩
  · have hj2 : j < n := by have := (List.getElem?_eq_some_iff.1 hj).1; simpa using this
    rw [List.getElem?_map, List.getElem?_range hj2, Option.map_some, Option.some.injEq] at hj
    rw [Nat.zero_add, H.list.cell j, H.row j hj2, hj]
  · have hi2 : i < n := by have := (List.getElem?_eq_some_iff.1 hl).1; have := H.len; omega
    rw [List.getElem?_map, List.getElem?_range hi2, Option.map_some, Option.some.injEq] at hv
    subst hv
    have hw := H.wide l (List.mem_of_getElem? hl)
    refine ⟨_, m, by rw [hw], (fun h => (by cases h)), by omega, fun _ => ⟨g, o i, rfl, h2.1, h2.2, fun j u hj => ?_⟩⟩
    rw [List.getElem?_map] at hj
    cases e : l[j]? with
    | none => rw [e] at hj; cases hj
    | some c =>
      rw [e, Option.map_some, Option.some.injEq] at hj
      rw [H.data.cell, H.byte i l j c hl e, hj]
theorem Wr.bound (H : Wr w h g n m ls hs cs o) (i : Nat) (hi : i < n) (hm : 0 < m) : o i + m ≤ cs.size := by
  obtain ⟨l, hl⟩ : ∃ l, ls[i]? = some l := ⟨_, List.getElem?_eq_getElem (by have := H.len; omega)⟩
  have hw := H.wide _ (List.mem_of_getElem? hl)
  obtain ⟨c, hj⟩ : ∃ c, l[m - 1]? = some c := ⟨_, List.getElem?_eq_getElem (by omega)⟩
  have := (Array.getElem?_eq_some_iff.1 (H.byte i _ _ _ hl hj)).1
  omega
/-- One byte is written. -/
theorem Wr.put (H : Wr w h g n m ls hs cs o) (hg : h ≠ g) (i j : Nat) (hi : i < n) (hj : j < m) (c : UInt8) :
    Wr (w.setCell ⟨g, o i + j, none⟩ (u8 c)) h g n m (setAt ls i j c) hs (cs.setIfInBounds (o i + j) (u8 c)) o := by
  refine ⟨H.list.far (p := ⟨g, o i + j, none⟩) hg _, H.data.set _ _, H.row, fun i' l j' c' hl hc => ?_, H.apart, by rw [setAt_len]; exact H.len, fun l hl => ?_⟩
  · have hi' : i' < n := by have := (List.getElem?_eq_some_iff.1 hl).1; rw [setAt_len, H.len] at this; exact this
    rw [setAt_get] at hl
    rw [Array.getElem?_setIfInBounds]
    by_cases e : i' = i
    · subst e
      rw [if_pos rfl] at hl
      cases e1 : ls[i']? with
      | none => rw [e1] at hl; cases hl
      | some l0 =>
        rw [e1, Option.map_some, Option.some.injEq] at hl
        subst hl
        by_cases e2 : j = j'
        · subst e2
          have hlt : j < l0.length := by have := (List.getElem?_eq_some_iff.1 hc).1; simpa using this
          rw [List.getElem?_set_self hlt, Option.some.injEq] at hc
          have := (Array.getElem?_eq_some_iff.1 (H.byte i' l0 j _ e1 (List.getElem?_eq_getElem hlt))).1
          rw [if_pos rfl, if_pos this, hc]
        · rw [List.getElem?_set_ne e2] at hc
          rw [if_neg (by omega)]
          exact H.byte i' l0 j' c' e1 hc
    · rw [if_neg e] at hl
      have hw := H.wide l (List.mem_of_getElem? hl)
      have hlt := (List.getElem?_eq_some_iff.1 hc).1
      have := H.apart i' i hi' hi e
      rw [if_neg (by omega)]
      exact H.byte i' l j' c' hl hc
  · obtain ⟨q, hq⟩ := List.mem_iff_getElem?.1 hl
    rw [setAt_get] at hq
    split at hq
    · cases e1 : ls[q]? with
      | none => rw [e1] at hq; cases hq
      | some l0 =>
        rw [e1, Option.map_some, Option.some.injEq] at hq
        rw [← hq, List.length_set]
        exact H.wide l0 (List.mem_of_getElem? e1)
    · exact H.wide l (List.mem_of_getElem? hq)
/-- Stretches are made blanks. -/
theorem Wr.fill (H : Wr w h g n m ls hs cs o) (hg : h ≠ g) (st : List (Nat × Nat)) (p : Nat → Nat → Bool) (hA : At w' g 5 (fills cs st)) (hB : But g w w')
    (hp : ∀ i j, i < n → j < m → inSt st (o i + j) = p i j) : Wr w' h g n m (wipeIf p ls) hs (fills cs st) o := by
  refine ⟨H.list.same (hB.block h hg), hA, H.row, fun i l j c hl hc => ?_, H.apart, by rw [wipeIf_len]; exact H.len, fun l hl => ?_⟩
  · have hi : i < n := by have := (List.getElem?_eq_some_iff.1 hl).1; rw [wipeIf_len, H.len] at this; exact this
    rw [wipeIf_get] at hl
    cases e1 : ls[i]? with
    | none => rw [e1] at hl; cases hl
    | some l0 =>
      rw [e1, Option.map_some, Option.some.injEq] at hl
      subst hl
      rw [List.getElem?_mapIdx] at hc
      cases e2 : l0[j]? with
      | none => rw [e2] at hc; cases hc
      | some c0 =>
        rw [e2, Option.map_some, Option.some.injEq] at hc
        have hj : j < m := by have := (List.getElem?_eq_some_iff.1 e2).1; have := H.wide l0 (List.mem_of_getElem? e1); omega
        have hb := H.byte i l0 j c0 e1 e2
        rw [fills_get, hp i j hi hj]
        cases hpp : p i j with
        | true => rw [if_pos ⟨rfl, (Array.getElem?_eq_some_iff.1 hb).1⟩, ← hc, hpp]; rfl
        | false => rw [if_neg (by simp), hb, ← hc, hpp]; rfl
  · obtain ⟨q, hq⟩ := List.mem_iff_getElem?.1 hl
    rw [wipeIf_get] at hq
    cases e1 : ls[q]? with
    | none => rw [e1] at hq; cases hq
    | some l0 =>
      rw [e1, Option.map_some, Option.some.injEq] at hq
      rw [← hq, List.length_mapIdx]
      exact H.wide l0 (List.mem_of_getElem? e1)
end

/-- What is done with the next byte. -/
def fnv (esc : Nat) : Value := if esc = 0 then .func (.func 25) #[] #[] else if esc = 1 then .func (.func 38) #[] #[] else .func (.func 46) #[] #[]
/-- A terminal's ten cells. -/
def vc (s : Ts) (h : Nat) : Array Value := #[.int .i64 s.n, .int .i64 s.m, .slice (some ⟨h, 0, none⟩) s.n s.n, .int .i64 s.r, .int .i64 s.k, fnv s.esc, .int .i64 s.p.a, .int .i64 s.p.b, .int .i64 s.p.last, .bool s.p.bad]
/-- At block b stands a terminal; all that it has stands in blocks from lo up to hi. -/
structure Vb (w : World) (lo hi b h g : Nat) (s : Ts) (hs cs : Array Value) (o : Nat → Nat) : Prop where
  ok : Ok s
  blk : At w b 46 (vc s h)
  wr : Wr w h g s.n s.m s.ls hs cs o
  bb : lo ≤ b ∧ b < hi
  hh : lo ≤ h ∧ h < hi
  gg : lo ≤ g ∧ g < hi
  bh : b ≠ h
  bg : b ≠ g
  hg : h ≠ g
  sz : hi ≤ w.heap.size
def Vt (w : World) (lo hi b : Nat) (s : Ts) : Prop := ∃ h g hs cs o, Vb w lo hi b h g s hs cs o
section
variable {w w' : World} {lo hi b h g : Nat} {s s' : Ts} {hs cs : Array Value} {o : Nat → Nat}
theorem Vb.vt (H : Vb w lo hi b h g s hs cs o) : Vt w lo hi b s := ⟨h, g, hs, cs, o, H⟩
theorem Vt.ok (H : Vt w lo hi b s) : Ok s := by obtain ⟨_, _, _, _, _, H⟩ := H; exact H.ok
theorem Vt.sz (H : Vt w lo hi b s) : hi ≤ w.heap.size := by obtain ⟨_, _, _, _, _, H⟩ := H; exact H.sz
theorem Vt.bb (H : Vt w lo hi b s) : lo ≤ b ∧ b < hi := by obtain ⟨_, _, _, _, _, H⟩ := H; exact H.bb
/-- Nothing of it has turned. -/
theorem Vt.keep (H : Vt w lo hi b s) (hk : ∀ k, lo ≤ k → k < hi → w'.heap[k]? = w.heap[k]?) (hz : w.heap.size ≤ w'.heap.size) : Vt w' lo hi b s := by
  obtain ⟨h, g, hs, cs, o, H⟩ := H
  have := H.sz
  exact ⟨h, g, hs, cs, o, H.ok, H.blk.same (hk b H.bb.1 H.bb.2), H.wr.keep (hk h H.hh.1 H.hh.2) (hk g H.gg.1 H.gg.2), H.bb, H.hh, H.gg, H.bh, H.bg, H.hg, by omega⟩
theorem Vt.below {n : Nat} (H : Vt w lo hi b s) (hB : Below n w w') (hn : hi ≤ n) : Vt w' lo hi b s := H.keep (fun k _ h2 => hB.block k (by omega)) hB.size
theorem Vt.far {lo' hi' : Nat} (H : Vt w lo hi b s) (hT : Tn lo' hi' w w') (hx : hi ≤ lo' ∨ hi' ≤ lo) : Vt w' lo hi b s := H.keep (fun k h1 h2 => hT.block k (by have := H.sz; omega) (by omega)) hT.size
theorem Vt.drew (H : Vt w lo hi b s) : Vt w.drew lo hi b s := H.keep (fun _ _ _ => rfl) (Nat.le_refl _)
theorem Vt.drewN (H : Vt w lo hi b s) (k : Nat) : Vt (w.drewN k) lo hi b s := H.keep (fun _ _ _ => rfl) (Nat.le_refl _)
/-- Its own block alone has turned. -/
theorem Vb.turn (H : Vb w lo hi b h g s hs cs o) (hB : But b w w') (hA : At w' b 46 (vc s' h)) (ok : Ok s') (e1 : s'.n = s.n) (e2 : s'.m = s.m) (e3 : s'.ls = s.ls) : Vb w' lo hi b h g s' hs cs o :=
  ⟨ok, hA, by rw [e1, e2, e3]; exact H.wr.keep (hB.block h (Ne.symm H.bh)) (hB.block g (Ne.symm H.bg)), H.bb, H.hh, H.gg, H.bh, H.bg, H.hg, by rw [hB.size]; exact H.sz⟩
/-- Ten cells. -/
theorem At.ten {w : World} {b : Nat} {t : TypeId} {x0 x1 x2 x3 x4 x5 x6 x7 x8 x9 : Value} (h : At w b t #[x0, x1, x2, x3, x4, x5, x6, x7, x8, x9]) : w.cell? ⟨b, 0, none⟩ = some x0 ∧ w.cell? ⟨b, 1, none⟩ = some x1 ∧ w.cell? ⟨b, 2, none⟩ = some x2 ∧ w.cell? ⟨b, 3, none⟩ = some x3 ∧ w.cell? ⟨b, 4, none⟩ = some x4 ∧ w.cell? ⟨b, 5, none⟩ = some x5 ∧ w.cell? ⟨b, 6, none⟩ = some x6 ∧ w.cell? ⟨b, 7, none⟩ = some x7 ∧ w.cell? ⟨b, 8, none⟩ = some x8 ∧ w.cell? ⟨b, 9, none⟩ = some x9 :=
  ⟨h.cell 0, h.cell 1, h.cell 2, h.cell 3, h.cell 4, h.cell 5, h.cell 6, h.cell 7, h.cell 8, h.cell 9⟩
theorem Vb.ten (H : Vb w lo hi b h g s hs cs o) : w.cell? ⟨b, 0, none⟩ = some (.int .i64 s.n) ∧ w.cell? ⟨b, 1, none⟩ = some (.int .i64 s.m) ∧ w.cell? ⟨b, 2, none⟩ = some (.slice (some ⟨h, 0, none⟩) s.n s.n) ∧ w.cell? ⟨b, 3, none⟩ = some (.int .i64 s.r) ∧ w.cell? ⟨b, 4, none⟩ = some (.int .i64 s.k) ∧ w.cell? ⟨b, 5, none⟩ = some (fnv s.esc) ∧ w.cell? ⟨b, 6, none⟩ = some (.int .i64 s.p.a) ∧ w.cell? ⟨b, 7, none⟩ = some (.int .i64 s.p.b) ∧ w.cell? ⟨b, 8, none⟩ = some (.int .i64 s.p.last) ∧ w.cell? ⟨b, 9, none⟩ = some (.bool s.p.bad) := At.ten H.blk
theorem Vb.frozen (H : Vb w lo hi b h g s hs cs o) (i : Nat) : w.frozen? ⟨b, i, none⟩ = false := H.blk.frozen i
end
end Go.Proofs.Yteekihhngjbjgaa.vtt
