/- Files: what a stroke does. -/
import Derived.Test.YtlbhegicapggeaaGreatFilSteps
import Derived.BigRegion
namespace Go.Proofs.YtlbhegicapggeaaGreat.fil
open Go.RowKit Go.Lib Go.Maps Go.WideMaps
set_option linter.unusedVariables false
set_option linter.unusedSimpArgs false
set_option linter.unnecessarySimpa false
set_option linter.unusedSectionVars false

section
variable {q : Bool} {w w' w'' : World} {F F' : Nat → Prop} {fb mb : Nat} {D : DataW Unit} {G : List Gf} {dp : Option Addr} {s s' : St}

theorem Wentz.trans (hT : Turned F w w') (hF : ∀ b, F' b → F b ∨ w.heap.size ≤ b) (h : Wentz q F' fb s w' w'') : Wentz q F fb s w w'' := by
  obtain ⟨h1, F2, h2, h3⟩ := h
  refine ⟨hT.trans h1 hF, F2, fun b hb => ?_, h3⟩
  rcases h2 b hb with h4 | h4
  · exact hF b h4
  · have := hT.size; exact .inr (by omega)
theorem Wentz.drewN (h : Wentz q F fb s w w') (n : Nat) : Wentz q F fb s w (w'.drewN n) := by
  obtain ⟨h1, F2, h2, mb, D, G, dp, h3⟩ := h
  exact ⟨h1.drewN n, F2, h2, mb, D, G, dp, h3.drewN n⟩
theorem Wentz.fromN {n : Nat} (h : Wentz q F fb s (w.drewN n) w') : Wentz q F fb s w w' := ⟨⟨h.1.os, h.1.tape, h.1.output, h.1.size, h.1.block⟩, h.2⟩
theorem Wentz.from1 (h : Wentz q F fb s w.drew w') : Wentz q F fb s w w' := ⟨⟨h.1.os, h.1.tape, h.1.output, h.1.size, h.1.block⟩, h.2⟩
theorem Wentz.of_same (h : Wentz q F fb s w w') (e : s = s') : Wentz q F fb s' w w' := e ▸ h

theorem Fz.wentFile (h : Fz q w fb mb D G dp s F) {g g' : Gf} (hg : g ∈ G) (hn : g'.f.name = g.f.name) (hbk : g'.blk = g.blk) (hT : Turned (fun b => b = g.blk ∨ g.v.ownBlock = some b) w w')
    (h1 : At w' g.blk 72 #[g'.v, .int .i64 g'.f.plat]) (h2 : w'.ownsRow 0 5 1 g'.v g'.f.bytes.length (bv g'.f.bytes))
    (h3 : ∀ b, g'.v.ownBlock = some b → g.v.ownBlock = some b ∨ w.heap.size ≤ b) (ho : OkF s.cap (ins s.files g'.f)) : Wentz q F fb { s with files := ins s.files g'.f } w w' := by
  refine ⟨hT.mono fun b hb => ?_, Plus F w w', fun b hb => hb.imp id (fun h => h.1), mb, D, rep g g' G, dp, h.turnFile hg hn hbk hT.size (fun b hb hb1 hb2 => hT.block b hb (fun e => e.elim hb1 hb2)) h1 h2 h3 ho⟩
  rcases hb with rfl | hb
  · exact (h.each g hg).mine
  · exact (h.each g hg).rowMine b hb

theorem ins_ins {l : List Fl} (h : Rise l) (x y : Fl) (he : x.name = y.name) : ins (ins l x) y = ins l y := by
  refine rise_ext (rise_ins (rise_ins h x) y) (rise_ins h y) ?_
  refine (List.perm_ext_iff_of_nodup ((rise_ins (rise_ins h x) y).imp fun hab e => lt_ne hab (congrArg Fl.name e)) ((rise_ins h y).imp fun hab e => lt_ne hab (congrArg Fl.name e))).2 fun z => ?_
  rw [mem_ins, mem_ins, mem_ins]
  constructor
  · rintro (h | ⟨rfl | h, hn⟩)
    · exact .inl h
    · exact absurd he hn
    · exact .inr ⟨h.1, hn⟩
  · rintro (h | ⟨h, hn⟩)
    · exact .inl h
    · exact .inr ⟨.inr ⟨h, by rw [he]; exact hn⟩, hn⟩

theorem own_form2 {w : World} {base e n : Nat} {v : Value} {xs : List Value} (h : w.ownsRow base e 1 v n xs) : ∃ A c, v = .slice A n c ∧ n ≤ c ∧ c ≤ maxLen := by
  rcases h.2 with ⟨hv, h0⟩ | ⟨b, cap, _, hv, _, _, h1, h2, _⟩
  · exact ⟨none, 0, by rw [hv, h0], by omega, Nat.zero_le _⟩
  · exact ⟨_, _, hv, h1, h2⟩
theorem ownBlock_len (A : Option Addr) (n m c d : Nat) : (Value.slice A n c).ownBlock = (Value.slice A m d).ownBlock := by cases A <;> rfl
/-- The row's first m cells, as a slice. -/
theorem own_front {w : World} {e n : Nat} {A : Option Addr} {c : Nat} {xs : List Value} (h : w.ownsRow 0 e 1 (.slice A n c) n xs) {m : Nat} (hm : m ≤ n) : w.ownsRow 0 e 1 (.slice A m c) m (xs.take m) := by
  have hl : xs.length = n := by simpa using h.1
  refine ⟨by rw [List.length_take]; omega, ?_⟩
  rcases h.2 with ⟨hv, h0⟩ | ⟨b, cap, cur, hv, hb, hh, h1, h2, h3, h4⟩
  · simp at hv
    obtain ⟨rfl, _, rfl⟩ := hv
    have : m = 0 := by omega
    subst this
    exact .inl ⟨rfl, rfl⟩
  · injection hv with e1 e2 e3
    subst e1 e3
    refine .inr ⟨b, c, cur, rfl, hb, hh, by omega, h2, h3, ?_⟩
    rw [← h4, List.take_take]
    congr 1
    omega

/-! ### Sync -/
theorem syncD (b1 b2 : Nat) (nm : ByteArray) (w : World) (hn : nm.size ≤ maxLen) (h1 : Box w b1 25 (.pointer (some ⟨fb, 0, none⟩))) (h2 : Box w b2 9 (.string nm)) (h : Fz q w fb mb D G dp s F) (he : errThere s nm.data.toList = 0) :
    Calls Tryz.prog 69 #[.pointer (some ⟨b1, 0, none⟩), .pointer (some ⟨b2, 0, none⟩)] w fun e w' => e = .returned (.tuple #[]) ∧ Wentz q F fb { s with files := doSync s nm.data.toList } w w' := by
  have k1 := h1.cell
  have k2 := h2.cell
  have c1 := h.cells.2.1
  have ho := okf_sync h.ok nm.data.toList
  unfold errThere at he
  unfold doSync at ho ⊢
  rcases hf : find s.files nm.data.toList with _ | x
  · rw [hf] at he; cases he
  obtain ⟨g, hg, rfl, hgn⟩ := h.has hf
  have L := fun k => (h.drewN k).look1 nm hn hg hgn
  have E := h.each g hg
  have c4 : w.cell? ⟨g.blk, 0, none⟩ = some g.v := E.blk.cell 0
  have c5 : w.cell? ⟨g.blk, 1, none⟩ = some (.int .i64 g.f.plat) := E.blk.cell 1
  have c6 : w.frozen? ⟨g.blk, 1, none⟩ = false := E.blk.frozen 1
  rw [hf] at ho
  dsimp only at ho ⊢
  have HW : Hid (∀ k, Wentz q F fb { s with files := ins s.files ⟨nm.data.toList, g.f.bytes, g.f.bytes.length⟩ } w ((w.drewN k).setCell ⟨g.blk, 1, none⟩ (.int .i64 (g.f.bytes.length : Int)))) := Lib.hid fun k => by
    refine ((h.drewN k).wentFile (g' := ⟨⟨nm.data.toList, g.f.bytes, g.f.bytes.length⟩, g.blk, g.v⟩) hg hgn.symm rfl ((Turned.refl _ _).setCell (.inl (.inl rfl)) _) ?_ ?_ (fun b e => .inl e) ho).fromN
    · exact At.set (w := w.drewN k) E.blk 1 _
    · exact own_same E.row fun b e => Below.heap_setCell (w.drewN k) _ _ _ (fun e2 => h.neRowBlk hg hg (by rw [e, e2]))
  obtain ⟨A, c, hv⟩ := own_form E.row
  rw [hv] at c4
  clear h h1 h2 hf hg E hv he hgn ho
  generalize g.f.bytes.length = gl at *
  generalize g.blk = gb at *
  go_enter Tryz.func69, Tryz.ntmps69
  go_wp2
  go_quiet (fail)
  go_wp2
  go_end0
  exact ⟨rfl, HW.out _⟩

/-! ### Truncate -/
set_option maxHeartbeats 1000000 in
theorem truncD (b1 b2 b3 : Nat) (nm : ByteArray) (n : Int) (w : World) (hn : nm.size ≤ maxLen) (h1 : Box w b1 25 (.pointer (some ⟨fb, 0, none⟩))) (h2 : Box w b2 9 (.string nm)) (h3 : Box w b3 3 (.int .i64 n)) (h : Fz q w fb mb D G dp s F) (he : errTrunc s nm.data.toList n = 0) :
    Calls Tryz.prog 74 #[.pointer (some ⟨b1, 0, none⟩), .pointer (some ⟨b2, 0, none⟩), .pointer (some ⟨b3, 0, none⟩)] w fun e w' => e = .returned (.tuple #[]) ∧ Wentz q F fb { s with files := doTrunc s nm.data.toList n } w w' := by
  have k1 := h1.cell
  have k2 := h2.cell
  have k3 := h3.cell
  have c1 := h.cells.2.1
  have ho := okf_trunc h.ok nm.data.toList n
  unfold errTrunc at he
  unfold doTrunc at ho ⊢
  rcases hf : find s.files nm.data.toList with _ | x
  · rw [hf] at he; cases he
  obtain ⟨g, hg, rfl, hgn⟩ := h.has hf
  rw [hf] at he
  have hn0 : 0 ≤ n ∧ n ≤ (g.f.bytes.length : Int) := by
    simp only at he
    split at he
    · cases he
    · omega
  obtain ⟨m, rfl⟩ : ∃ m : Nat, n = m := ⟨n.toNat, by omega⟩
  have hml : m ≤ g.f.bytes.length := by omega
  have L := fun k => (h.drewN k).look1 nm hn hg hgn
  have E := h.each g hg
  have c4 : w.cell? ⟨g.blk, 0, none⟩ = some g.v := E.blk.cell 0
  have c5 : w.cell? ⟨g.blk, 1, none⟩ = some (.int .i64 g.f.plat) := E.blk.cell 1
  have c6 : w.frozen? ⟨g.blk, 1, none⟩ = false := E.blk.frozen 1
  have c7 : w.frozen? ⟨g.blk, 0, none⟩ = false := E.blk.frozen 0
  rw [hf] at ho
  dsimp only at ho ⊢
  have hpl := h.ok.plat g.f (by rw [h.files]; exact List.mem_map_of_mem hg)
  have hbl : g.f.bytes.length ≤ 1048576 := by have h1 := total_mem (l := s.files) (x := g.f) (by rw [h.files]; exact List.mem_map_of_mem hg); have := h.ok.room; have := h.ok.cap2; omega
  obtain ⟨A, c, hv, hlc, hcm⟩ := own_form2 E.row
  simp only [Int.toNat_natCast] at ho ⊢
  have hcm : c ≤ 9223372036854775807 := by unfold maxLen at hcm; omega
  have n1 : ¬ b3 = g.blk := At.ne h3 E.blk (by decide)
  have n2 : ¬ g.blk = b3 := fun e => n1 e.symm
  have HW : ∀ k, Wentz q F fb { s with files := ins s.files ⟨nm.data.toList, g.f.bytes.take m, min g.f.plat m⟩ } w
      (((w.drewN k).setCell ⟨g.blk, 0, none⟩ (.slice A m c)).setCell ⟨g.blk, 1, none⟩ (.int .i64 (min (g.f.plat : Int) (m : Int)))).drew := fun k => by
    refine Wentz.drewN (((h.drewN k).wentFile (g' := ⟨⟨nm.data.toList, g.f.bytes.take m, min g.f.plat m⟩, g.blk, .slice A m c⟩) hg hgn.symm rfl (((Turned.refl _ _).setCell (.inl (.inl rfl)) _).setCell (.inl (.inl rfl)) _) ?_ ?_ (fun b e => ?_) ?_).fromN) 1
    · have e := At.set (At.set (w := w.drewN k) E.blk 0 (.slice A m c)) 1 (.int .i64 (min (g.f.plat : Int) (m : Int)))
      have e2 : ((min g.f.plat m : Nat) : Int) = min (g.f.plat : Int) (m : Int) := by omega
      show At _ _ _ #[.slice A m c, .int .i64 ((min g.f.plat m : Nat) : Int)]
      rw [e2]
      exact e
    · have e := own_front (hv ▸ E.row) hml
      have e2 : (g.f.bytes.take m).length = m := by rw [List.length_take]; omega
      rw [← bv_take] at e
      show World.ownsRow _ 0 5 1 (.slice A m c) (g.f.bytes.take m).length (bv (g.f.bytes.take m))
      rw [e2]
      refine own_same e fun b e3 => ?_
      have e4 : b ≠ g.blk := fun e5 => h.neRowBlk hg hg (by rw [hv, ownBlock_len A _ m c c, ← e5]; exact e3)
      exact (Below.heap_setCell _ _ _ _ e4).trans (Below.heap_setCell (w.drewN k) _ _ _ e4)
    · rw [hv, ownBlock_len A _ m c c]; exact .inl e
    · exact ho
  have HW := Lib.hid HW
  clear h h1 h2 h3 hf hg E hgn ho he
  rw [hv] at c4
  generalize g.f.bytes.length = gl at *
  generalize g.blk = gb at *
  generalize g.f.plat = gp at *
  go_enter Tryz.func74, Tryz.ntmps74
  go_wp2
  go_quiet (fail)
  go_wp2
  have d3 : (w.drewN nq).cell? ⟨b3, 0, none⟩ = some (.int .i64 m) := k3
  have d4 : (w.drewN nq).cell? ⟨gb, 0, none⟩ = some (.slice A gl c) := c4
  have d5 : (w.drewN nq).cell? ⟨gb, 1, none⟩ = some (.int .i64 gp) := c5
  have d6 : (w.drewN nq).frozen? ⟨gb, 1, none⟩ = false := c6
  have d7 : (w.drewN nq).frozen? ⟨gb, 0, none⟩ = false := c7
  have HW := HW.out nq
  clear k1 k2 k3 c1 c4 c5 c6 c7 L
  generalize w.drewN nq = w1 at *
  go_region
  all_goals (go_end0; exact ⟨rfl, HW⟩)
end
end Go.Proofs.YtlbhegicapggeaaGreat.fil
