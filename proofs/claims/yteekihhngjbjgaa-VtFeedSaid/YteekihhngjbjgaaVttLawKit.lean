/- Terminals: a grid that was told, in a block of its own. -/
import Derived.Test.YteekihhngjbjgaaVttKit
import Derived.Test.YteekihhngjbjgaaVttLawNone
import Derived.Test.YteekihhngjbjgaaGrdTree
namespace Go.Proofs.Yteekihhngjbjgaa.vtt
open Go.RowKit Go.Lib Go.Proofs.Yteekihhngjbjgaa.grd
set_option linter.unusedVariables false
set_option linter.unusedSimpArgs false
set_option linter.unnecessarySimpa false
set_option linter.unusedSectionVars false

/-- At block bw stands a grid as s shows it, its rows in blocks from lo on, below bw, at h. -/
structure Gb (W : World) (lo bw h : Nat) (s : Ts) : Prop where
  blk : At W bw 34 #[.int .i64 s.n, .int .i64 s.m, .slice (some ⟨h, 0, none⟩) s.n s.n, .int .i64 s.r, .int .i64 s.k]
  own : Own W lo bw (some ⟨h, 0, none⟩) s.n s.n s.ls
  le : lo ≤ bw
section
variable {W W' W'' : World} {lo lo' hi bw h b n : Nat} {s : Ts}
theorem Gb.lt (H : Gb W lo bw h s) : bw < W.heap.size := H.blk.lt
theorem Gb.below (H : Gb W lo bw h s) (hB : Below n W W') (hn : bw < n) : Gb W' lo bw h s := ⟨H.blk.keep hB hn, H.own.below hB (by omega), H.le⟩
theorem Gb.tn (H : Gb W lo bw h s) (hT : Tn lo' hi W W') (hx : hi ≤ lo) : Gb W' lo bw h s := by
  have := H.le
  have := H.lt
  exact ⟨hT.at H.blk (by omega), hT.own H.own (by omega) (by omega), H.le⟩
theorem Gb.tn2 (H : Gb W lo bw h s) (hT : Tn lo' hi W W') (hx : bw < lo') : Gb W' lo bw h s := by
  have := H.le
  have := H.lt
  exact ⟨hT.at H.blk (by omega), hT.own H.own (by omega) (by omega), H.le⟩
theorem Gb.drew (H : Gb W lo bw h s) : Gb W.drew lo bw h s := ⟨H.blk.same rfl, H.own.keep (fun _ _ _ => rfl), H.le⟩
theorem Gb.drewN (H : Gb W lo bw h s) (k : Nat) : Gb (W.drewN k) lo bw h s := ⟨H.blk.same rfl, H.own.keep (fun _ _ _ => rfl), H.le⟩
theorem Gb.gr (H : Gb W lo bw h s) (hf : few s.ls) : Gr W 0 W.heap.size (some ⟨h, 0, none⟩) s.n s.n s.ls := (H.own.rows hf).mono (Nat.zero_le _) (by have := H.lt; omega)
theorem Gb.five (H : Gb W lo bw h s) : W.cell? ⟨bw, 0, none⟩ = some (.int .i64 s.n) ∧ W.cell? ⟨bw, 1, none⟩ = some (.int .i64 s.m) ∧ W.cell? ⟨bw, 2, none⟩ = some (.slice (some ⟨h, 0, none⟩) s.n s.n) ∧ W.cell? ⟨bw, 3, none⟩ = some (.int .i64 s.r) ∧ W.cell? ⟨bw, 4, none⟩ = some (.int .i64 s.k) := H.blk.five
/-- A grid that was told, laid into a block of its own. -/
theorem Gb.mk' {X : Array Value} {T : TypeId} (hO : Own W' W.heap.size W'.heap.size (some ⟨h, 0, none⟩) s.n s.n s.ls) (hz : W.heap.size ≤ W'.heap.size) (hA : At W'' W'.heap.size 34 #[.int .i64 s.n, .int .i64 s.m, .slice (some ⟨h, 0, none⟩) s.n s.n, .int .i64 s.r, .int .i64 s.k]) (hBut : But W'.heap.size (W'.alloc (.cells X T)) W'') :
    Gb W'' W.heap.size W'.heap.size h s ∧ Below W'.heap.size W' W'' ∧ W''.heap.size = W'.heap.size + 1 := by
  refine ⟨⟨hA, hO.keep (fun b _ h2 => (hBut.block b (by omega)).trans (Below.heap_alloc W' _ b h2)), hz⟩, ((Below.refl _ _).alloc (Nat.le_refl _) _).trans (hBut.below (Nat.le_refl _)), ?_⟩
  rw [hBut.size]; simp
end
/-- Grids' Check of one that may be. -/
theorem check_ok (s : Ts) (hok : Ok s) (h : Nat) (W : World) (hG : Gr W 0 W.heap.size (some ⟨h, 0, none⟩) s.n s.n s.ls) :
    Calls Try.prog 19 #[.agg #[.int .i64 s.n, .int .i64 s.m, .slice (some ⟨h, 0, none⟩) s.n s.n, .int .i64 s.r, .int .i64 s.k]] W fun e w' => e = .returned (.int .i64 0) ∧ Below W.heap.size W w' :=
  check_is s.n s.m s.r s.k _ s.n s.n s.ls true hok.may W hok.few hG
/-- Grids' Clone. -/
theorem clone_ok (s : Ts) (hok : Ok s) (h : Nat) (W : World) (hG : Gr W 0 W.heap.size (some ⟨h, 0, none⟩) s.n s.n s.ls) :
    Calls Try.prog 23 #[.agg #[.int .i64 s.n, .int .i64 s.m, .slice (some ⟨h, 0, none⟩) s.n s.n, .int .i64 s.r, .int .i64 s.k]] W (Shown s W) :=
  clone_is s.n s.m s.r s.k _ s.n s.n s.ls W hok.few hG
/-- Grids' Same of two that are the same. -/
theorem same_ok (s : Ts) (h h' : Nat) (W : World) (hG : Gr W 0 W.heap.size (some ⟨h, 0, none⟩) s.n s.n s.ls) (hG' : Gr W 0 W.heap.size (some ⟨h', 0, none⟩) s.n s.n s.ls) :
    Calls Try.prog 20 #[.agg #[.int .i64 s.n, .int .i64 s.m, .slice (some ⟨h, 0, none⟩) s.n s.n, .int .i64 s.r, .int .i64 s.k], .agg #[.int .i64 s.n, .int .i64 s.m, .slice (some ⟨h', 0, none⟩) s.n s.n, .int .i64 s.r, .int .i64 s.k]] W fun e w' => e = .returned (.bool true) ∧ Below W.heap.size W w' :=
  same_is s.n s.m s.r s.k s.n s.m s.r s.k _ _ s.n s.n s.n s.n s.ls s.ls true (sameB_self _ _ _ _ _ _ rfl) W hG hG'
theorem gr_spot {W : World} {lo hi h n c i j : Nat} {ls : List (List UInt8)} {l : List UInt8} {x : UInt8} (G : Gr W lo hi (some ⟨h, 0, none⟩) n c ls) (hl : ls[i]? = some l) (hx : l[j]? = some x) :
    ∃ bb off d, W.cell? ⟨h, i, none⟩ = some (.slice (some ⟨bb, off, none⟩) l.length d) ∧ W.cell? ⟨bb, off + j, none⟩ = some (.int .u8 (x.toNat : Int)) := by
  obtain ⟨b, off, B', d, e, _, _, h1, _, _, h4⟩ := G.at i l hl
  injection e with e
  injection e with e1 e2
  subst e1 e2
  obtain ⟨bb, off, rfl, _, _, h5⟩ := h4.at j x hx
  exact ⟨bb, off, d, by rw [Nat.zero_add] at h1; exact h1, h5⟩
theorem and_more2 {A : Prop} {n : Nat} {wb W : World} (h : A ∧ More n wb W) : More n wb W := h.2
end Go.Proofs.Yteekihhngjbjgaa.vtt
