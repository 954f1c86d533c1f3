/- Terminals: the document's own terminal in memory. -/
import Derived.Test.YteekihhngjbjgaaVttWords
import Derived.Test.YteekihhngjbjgaaGrdRefNew
namespace Go.Proofs.Yteekihhngjbjgaa.vtt
open Go.RowKit Go.Lib Go.Proofs.Yteekihhngjbjgaa.grd
set_option linter.unusedVariables false
set_option linter.unusedSimpArgs false
set_option linter.unnecessarySimpa false
set_option linter.unusedSectionVars false

/-- Rows of one's own, kept where only a block of another type turns. -/
theorem Own.keepT {w w' : World} {lo hi n c : Nat} {A : Option Addr} {ls : List (List UInt8)} (H : Own w lo hi A n c ls) {rb : Nat} {T : TypeId} {cs0 : Array Value} (hA : At w rb T cs0) (h5 : T ≠ 5) (hT : T ≠ 39) (hB : But rb w w') : Own w' lo hi A n c ls := by
  obtain ⟨h1, h2, h0, hh, hs, f, h3, h4, hj⟩ := H
  refine ⟨h1, h2, h0, hh, hs, f, fun hn => ?_, fun i l hi => ?_, hj⟩
  · obtain ⟨a1, a2, a3, a4⟩ := h3 hn
    exact ⟨a1, a2, a3, a4.same (hB.block _ (At.ne_type a4 hA (Ne.symm hT)))⟩
  · obtain ⟨B', d, a1, a2, a3⟩ := h4 i l hi
    refine ⟨B', d, a1, a2, fun hl => ?_⟩
    obtain ⟨b1, b2, b3, b4, cs, b5, b6⟩ := a3 hl
    exact ⟨b1, b2, b3, b4, cs, b5.same (hB.block _ (At.ne_type b5 hA (Ne.symm h5))), b6⟩
/-- Of which types the blocks are in which a byte stands. -/
theorem Own.types {w : World} {lo hi n c i k hb b d m : Nat} {ls : List (List UInt8)} {l : List UInt8} {x : UInt8} (H : Own w lo hi (some ⟨hb, 0, none⟩) n c ls) (hl : ls[i]? = some l) (hx : l[k]? = some x) (hc : w.cell? ⟨hb, i, none⟩ = some (.slice (some ⟨b, 0, none⟩) m d)) :
    (∃ cs, At w b 5 cs) ∧ ∃ hs, At w hb 39 hs := by
  obtain ⟨h1, h2, h0, hh, hs, f, h3, h4, hj⟩ := H
  have hil := (List.getElem?_eq_some_iff.1 hl).1
  have hkl := (List.getElem?_eq_some_iff.1 hx).1
  obtain ⟨a1, a2, a3, a4⟩ := h3 (by omega)
  injection a1 with a1
  injection a1 with a1 _
  subst a1
  obtain ⟨B', d', b1, b2, b3⟩ := h4 i l hl
  obtain ⟨c1, c2, c3, c4, cs, c5, c6⟩ := b3 (by omega)
  rw [a4.cell, b1] at hc
  injection hc with hc
  injection hc with hc _ _
  rw [c1] at hc
  injection hc with hc
  injection hc with hc _
  subst hc
  exact ⟨⟨cs, c5⟩, ⟨hs, a4⟩⟩
/-- The document's terminal: seven cells. -/
def rc (s : Ts) (A : Option Addr) (c : Nat) (q : List UInt8) : Array Value := #[.int .i64 s.n, .int .i64 s.m, .slice A s.n c, .int .i64 s.r, .int .i64 s.k, .int .i64 s.esc, .string (B q)]
structure Rv (w : World) (lo rb N : Nat) (s : Ts) (A : Option Addr) (c : Nat) (q : List UInt8) : Prop where
  ok : Ok s
  blk : At w rb 38 (rc s A c q)
  own : Own w lo w.heap.size A s.n c s.ls
  two : s.esc = 2 → digest q = s.p
  one : s.esc = 1 → q = []
  short : q.length ≤ N
  le : lo ≤ rb
def Rt (w : World) (lo rb N : Nat) (s : Ts) : Prop := ∃ A c q, Rv w lo rb N s A c q
section
variable {w w' : World} {lo rb N : Nat} {s s' : Ts} {A : Option Addr} {c : Nat} {q q' : List UInt8}
theorem Rv.rt (H : Rv w lo rb N s A c q) : Rt w lo rb N s := ⟨A, c, q, H⟩
theorem tne5 : (38 : TypeId) ≠ 5 := by decide
theorem tne39 : (38 : TypeId) ≠ 39 := by decide
theorem Rv.seven (H : Rv w lo rb N s A c q) : w.cell? ⟨rb, 0, none⟩ = some (.int .i64 s.n) ∧ w.cell? ⟨rb, 1, none⟩ = some (.int .i64 s.m) ∧ w.cell? ⟨rb, 2, none⟩ = some (.slice A s.n c) ∧ w.cell? ⟨rb, 3, none⟩ = some (.int .i64 s.r) ∧ w.cell? ⟨rb, 4, none⟩ = some (.int .i64 s.k) ∧ w.cell? ⟨rb, 5, none⟩ = some (.int .i64 s.esc) ∧ w.cell? ⟨rb, 6, none⟩ = some (.string (B q)) :=
  ⟨H.blk.cell 0, H.blk.cell 1, H.blk.cell 2, H.blk.cell 3, H.blk.cell 4, H.blk.cell 5, H.blk.cell 6⟩
theorem Rv.frozen (H : Rv w lo rb N s A c q) (i : Nat) : w.frozen? ⟨rb, i, none⟩ = false := H.blk.frozen i
/-- Nothing of it has turned. -/
theorem Rt.keep (H : Rt w lo rb N s) (hk : ∀ k, lo ≤ k → k < w.heap.size → w'.heap[k]? = w.heap[k]?) (hz : w.heap.size ≤ w'.heap.size) : Rt w' lo rb N s := by
  obtain ⟨A, c, q, H⟩ := H
  exact ⟨A, c, q, H.ok, H.blk.same (hk rb H.le H.blk.lt), (H.own.keep fun b h1 h2 => hk b h1 h2).mono (Nat.le_refl _) hz, H.two, H.one, H.short, H.le⟩
theorem Rv.same (H : Rv w lo rb N s A c q) (e : w'.heap = w.heap) : Rv w' lo rb N s A c q :=
  ⟨H.ok, H.blk.same (by rw [e]), by rw [e]; exact H.own.keep (fun b _ _ => by rw [e]), H.two, H.one, H.short, H.le⟩
theorem Rt.below (H : Rt w lo rb N s) (hB : Below w.heap.size w w') : Rt w' lo rb N s := H.keep (fun k _ h2 => hB.block k h2) hB.size
theorem Rt.far {lo' hi' : Nat} (H : Rt w lo rb N s) (hT : Tn lo' hi' w w') (hx : hi' ≤ lo) : Rt w' lo rb N s := H.keep (fun k h1 h2 => hT.block k h2 (by omega)) hT.size
theorem Rt.more {N' : Nat} (H : Rt w lo rb N s) (h : N ≤ N') : Rt w lo rb N' s := by
  obtain ⟨A, c, q, H⟩ := H
  exact ⟨A, c, q, H.ok, H.blk, H.own, H.two, H.one, Nat.le_trans H.short h, H.le⟩
/-- Its own block alone has turned. -/
theorem Rv.turn {N' : Nat} (H : Rv w lo rb N s A c q) (hB : But rb w w') (hA : At w' rb 38 (rc s' A c q')) (ok : Ok s') (e1 : s'.n = s.n) (e3 : s'.ls = s.ls) (h2 : s'.esc = 2 → digest q' = s'.p) (h1 : s'.esc = 1 → q' = []) (hN : q'.length ≤ N') : Rv w' lo rb N' s' A c q' :=
  ⟨ok, hA, by rw [e1, e3, hB.size]; exact Own.keepT H.own H.blk tne5 tne39 hB, h2, h1, hN, H.le⟩
/-- New blocks have come. -/
theorem Rv.below (H : Rv w lo rb N s A c q) (hB : Below w.heap.size w w') : Rv w' lo rb N s A c q :=
  ⟨H.ok, H.blk.keep hB H.blk.lt, (H.own.below hB (Nat.le_refl _)).mono (Nat.le_refl _) hB.size, H.two, H.one, H.short, H.le⟩
/-- A byte is laid into a row. -/
theorem Rv.put (H : Rv w lo rb N s A c q) (i j : Nat) (hi : i < s.n) (hj : j < s.m) (x : UInt8) (hx : okB x = true) :
    ∃ hb b d v, A = some ⟨hb, 0, none⟩ ∧ w.cell? ⟨hb, i, none⟩ = some (.slice (some ⟨b, 0, none⟩) s.m d) ∧ w.cell? ⟨b, j, none⟩ = some v ∧ w.frozen? ⟨b, j, none⟩ = false ∧ lo ≤ b ∧ b ≠ rb ∧ hb ≠ rb ∧
      Rv (w.setCell ⟨b, j, none⟩ (.int .u8 (x.toNat : Int))) lo rb N { s with ls := setAt s.ls i j x } A c q := by
  obtain ⟨l, hl⟩ : ∃ l, s.ls[i]? = some l := ⟨_, List.getElem?_eq_getElem (by have := H.ok.len; omega)⟩
  have hlm := (H.ok.row l (List.mem_of_getElem? hl)).1
  obtain ⟨y, hy⟩ : ∃ y, l[j]? = some y := ⟨_, List.getElem?_eq_getElem (by omega)⟩
  obtain ⟨hb, b, d, rfl, c1, c2, c3, c4, c5, c6, c7, c8⟩ := H.own.spot i j l y hl hy
  obtain ⟨⟨cs, t1⟩, ⟨hs, t2⟩⟩ := Own.types H.own hl hy c1
  have n1 := At.ne_type t1 H.blk (Ne.symm tne5)
  have n2 := At.ne_type t2 H.blk (Ne.symm tne39)
  rw [hlm] at c1
  have hz : (w.setCell ⟨b, j, none⟩ (.int .u8 (x.toNat : Int))).heap.size = w.heap.size := by simp [World.setCell]
  exact ⟨hb, b, d, _, rfl, c1, c2, c3, c4, n1, n2, ⟨H.ok.size, by rw [setAt_len]; exact H.ok.len, setAt_row H.ok.row _ _ _ hx, H.ok.cur, H.ok.par, H.ok.esc⟩, H.blk.far (p := ⟨b, j, none⟩) (Ne.symm n1) _, by rw [hz]; exact c8 x, H.two, H.one, H.short, H.le⟩
end
/-- What became of it. -/
def Rent (lo rb N : Nat) (s' : Ts) (w w' : World) : Prop := Rt w' lo rb N s' ∧ Below lo w w'
theorem Rent.trans {lo rb N : Nat} {s' : Ts} {w w1 w' : World} (hB : Below lo w w1) (h : Rent lo rb N s' w1 w') : Rent lo rb N s' w w' := ⟨h.1, hB.trans h.2⟩
end Go.Proofs.Yteekihhngjbjgaa.vtt
