/- Files: what a stroke does that turns which files there are. -/
import Derived.Test.YtmknbakfjhjfmaaGreatDoorFilTurn
import Derived.Deep.RegionLaw
import Derived.BigRegion
/-! Files: what stands against a stroke. -/
namespace Go.Proofs.YtmknbakfjhjfmaaGreatDoor.fil
open Go.RowKit Go.Lib Go.Maps Go.WideMaps
set_option linter.unusedVariables false
set_option linter.unusedSimpArgs false
set_option linter.unnecessarySimpa false
set_option linter.unusedSectionVars false

/-- A variable that a function literal has captured. -/
def Box (w : World) (b : Nat) (t : TypeId) (v : Value) : Prop := At w b t #[v]
theorem Box.cell {w : World} {b : Nat} {t : TypeId} {v : Value} (h : Box w b t v) : w.cell? ⟨b, 0, none⟩ = some v := At.cell h 0
theorem Box.below {w w' : World} {b : Nat} {t : TypeId} {v : Value} (h : Box w b t v) (hB : Below w.heap.size w w') : Box w' b t v := At.same h (hB.block b (At.lt h))

section
variable {F : Nat → Prop} {fb mb : Nat} {D : DataW Unit} {G : List Gf} {dp : Option Addr} {s : St}

theorem syncA (b1 b2 : Nat) (nm : ByteArray) (w : World) (hn : nm.size ≤ maxLen) (h1 : Box w b1 32 (.pointer (some ⟨fb, 0, none⟩))) (h2 : Box w b2 9 (.string nm)) (h : Fs w fb mb D G dp s F) :
    Calls Tryz.prog 48 #[.pointer (some ⟨b1, 0, none⟩), .pointer (some ⟨b2, 0, none⟩)] w fun e w' => e = .returned (.int .i64 (errThere s nm.data.toList)) ∧ Below w.heap.size w w' := by
  have C := Lib.hid (missing_is nm w hn h)
  have k1 := h1.cell
  have k2 := h2.cell
  clear h h1 h2
  go_enter Tryz.func48, Tryz.ntmps48
  go_wp2_with (go_at_call 49; refine C.out.mono ?_; rintro e w' ⟨rfl, rfl⟩)
  go_ret
  exact ⟨rfl, Below.refl _ _⟩
theorem removeA (b1 b2 : Nat) (nm : ByteArray) (w : World) (hn : nm.size ≤ maxLen) (h1 : Box w b1 32 (.pointer (some ⟨fb, 0, none⟩))) (h2 : Box w b2 9 (.string nm)) (h : Fs w fb mb D G dp s F) :
    Calls Tryz.prog 53 #[.pointer (some ⟨b1, 0, none⟩), .pointer (some ⟨b2, 0, none⟩)] w fun e w' => e = .returned (.int .i64 (errThere s nm.data.toList)) ∧ Below w.heap.size w w' := by
  have C := Lib.hid (missing_is nm w hn h)
  have k1 := h1.cell
  have k2 := h2.cell
  clear h h1 h2
  go_enter Tryz.func53, Tryz.ntmps53
  go_wp2_with (go_at_call 49; refine C.out.mono ?_; rintro e w' ⟨rfl, rfl⟩)
  go_ret
  exact ⟨rfl, Below.refl _ _⟩
theorem renameA (b1 b2 b3 : Nat) (a b : ByteArray) (w : World) (ha : a.size ≤ maxLen) (hb : b.size ≤ maxLen) (h1 : Box w b1 32 (.pointer (some ⟨fb, 0, none⟩))) (h2 : Box w b2 9 (.string a)) (h3 : Box w b3 9 (.string b)) (h : Fs w fb mb D G dp s F) :
    Calls Tryz.prog 73 #[.pointer (some ⟨b1, 0, none⟩), .pointer (some ⟨b2, 0, none⟩), .pointer (some ⟨b3, 0, none⟩)] w fun e w' => e = .returned (.int .i64 (errRename s a.data.toList b.data.toList)) ∧ Below w.heap.size w w' := by
  have C := Lib.hid (missing_is a w ha h)
  have C2 := Lib.hid (isName_is b w hb)
  have k1 := h1.cell
  have k2 := h2.cell
  have k3 := h3.cell
  unfold errRename
  unfold errThere at C
  clear h h1 h2 h3
  cases hf : (find s.files a.data.toList).isNone
  · rw [hf] at C
    cases hi : isNm b.data.toList
    · rw [hi] at C2
      clear hf hi
      go_enter Tryz.func73, Tryz.ntmps73
      go_wp2_with (first | (go_at_call 49; refine C.out.mono ?_; rintro e w' ⟨rfl, rfl⟩) | (go_at_call 45; refine C2.out.mono ?_; rintro e w' ⟨rfl, rfl⟩))
      go_ret
      exact ⟨rfl, Below.refl _ _⟩
    · rw [hi] at C2
      clear hf hi
      go_enter Tryz.func73, Tryz.ntmps73
      go_wp2_with (first | (go_at_call 49; refine C.out.mono ?_; rintro e w' ⟨rfl, rfl⟩) | (go_at_call 45; refine C2.out.mono ?_; rintro e w' ⟨rfl, rfl⟩))
      go_ret
      exact ⟨rfl, Below.refl _ _⟩
  · rw [hf] at C
    clear hf C2
    go_enter Tryz.func73, Tryz.ntmps73
    go_wp2_with (go_at_call 49; refine C.out.mono ?_; rintro e w' ⟨rfl, rfl⟩)
    go_ret
    exact ⟨rfl, Below.refl _ _⟩
set_option maxRecDepth 100000 in
theorem appendA (b1 b2 b3 : Nat) (nm t : ByteArray) (w : World) (hn : nm.size ≤ maxLen) (ht : t.size ≤ maxLen) (h1 : Box w b1 32 (.pointer (some ⟨fb, 0, none⟩))) (h2 : Box w b2 9 (.string nm)) (h3 : Box w b3 9 (.string t)) (h : Fs w fb mb D G dp s F) :
    Calls Tryz.prog 44 #[.pointer (some ⟨b2, 0, none⟩), .pointer (some ⟨b1, 0, none⟩), .pointer (some ⟨b3, 0, none⟩)] w fun e w' => e = .returned (.int .i64 (errAppend s nm.data.toList t.data.toList.length)) ∧ Below w.heap.size w w' := by
  have hz : t.data.toList.length = t.size := by rw [Array.length_toList]; rfl
  have htt : t.size ≤ 9223372036854775807 := by unfold maxLen at ht; omega
  have C := Lib.hid (isName_is nm w hn)
  have C2 := Lib.hid (hasRoom_is nm t.size w hn htt h)
  have k1 := h1.cell
  have k2 := h2.cell
  have k3 := h3.cell
  rw [errAppend_room, hz]
  clear h h1 h2 h3 hz
  cases hi : isNm nm.data.toList
  · rw [hi] at C
    clear hi C2
    go_enter Tryz.func44, Tryz.ntmps44
    go_wp2_with (go_at_call 45; refine C.out.mono ?_; rintro e w' ⟨rfl, rfl⟩)
    go_ret
    exact ⟨rfl, Below.refl _ _⟩
  · rw [hi] at C
    cases hr : room s nm.data.toList t.size
    · rw [hr] at C2
      clear hi hr
      go_enter Tryz.func44, Tryz.ntmps44
      go_wp2_with (first | (go_at_call 45; refine C.out.mono ?_; rintro e w' ⟨rfl, rfl⟩) | (go_at_call 46; refine C2.out.mono ?_; rintro e w' ⟨rfl, hB⟩))
      go_ret
      exact ⟨rfl, hB⟩
    · rw [hr] at C2
      clear hi hr
      go_enter Tryz.func44, Tryz.ntmps44
      go_wp2_with (first | (go_at_call 45; refine C.out.mono ?_; rintro e w' ⟨rfl, rfl⟩) | (go_at_call 46; refine C2.out.mono ?_; rintro e w' ⟨rfl, hB⟩))
      go_ret
      exact ⟨rfl, hB⟩
end
end Go.Proofs.YtmknbakfjhjfmaaGreatDoor.fil

/-! Files: a text's bytes behind a row of bytes; a stroke's steps within a statement whose order is open. -/
namespace Go.Proofs.YtmknbakfjhjfmaaGreatDoor.fil
open Go.RowKit Go.Lib Go.Maps Go.WideMaps
set_option linter.unusedVariables false
set_option linter.unusedSimpArgs false
set_option linter.unnecessarySimpa false
set_option linter.unusedSectionVars false

theorem info5 : (Tryz.prog.info? 5).map (fun i => (i.zero, i.size, i.bytes)) = some (some (.int .u8 0), 1, 1) := by kernel_rfl

/-- A text's bytes are laid behind a row of bytes: it is the old row, or a new block. -/
theorem append_str (w : World) (ty : TypeId) (v : Value) (n : Nat) (xs : List Value) (hown : w.ownsRow 0 5 1 v n xs) (s : ByteArray) (hb : n + s.size ≤ 1048576) :
    ∃ v' w', (Builtin.append_ #[83, 9] ty #[v, .string s]).run Tryz.prog w = .ok v' w' ∧ w'.ownsRow 0 5 1 v' (n + s.size) (xs ++ strCells s) ∧ w.grownBy w' v.ownBlock ∧ ∀ b, v'.ownBlock = some b → v.ownBlock = some b ∨ w.heap.size ≤ b := by
  obtain ⟨i, hi, hz, hs, hby⟩ := info_parts info5
  have hm : n + s.size ≤ maxLen := by unfold maxLen; omega
  obtain ⟨v', w', hr, h1, h2, _⟩ := run_append_own_string (P := Tryz.prog) w 0 83 9 ty 5 i Tryz.underlying83 Tryz.underlying9 hi hz hs hby v n xs hown s hm (by omega) (Nat.zero_le _)
  refine ⟨v', w', hr, h1, h2, fun b hb' => ?_⟩
  rcases hown.2 with ⟨rfl, rfl⟩ | ⟨g, cap, cur, rfl, _, hg, hnc, hcm, hcs, htake⟩
  · have hn : w.ownsRow w.heap.size 5 1 (.slice none 0 0) 0 xs := ⟨hown.1, .inl ⟨rfl, rfl⟩⟩
    obtain ⟨v2, w2, hr2, h3, _⟩ := run_append_own_string (P := Tryz.prog) w w.heap.size 83 9 ty 5 i Tryz.underlying83 Tryz.underlying9 hi hz hs hby _ 0 xs hn s hm (by omega) (Nat.le_refl _)
    rw [hr] at hr2
    injection hr2 with e1 e2
    subst e1 e2
    exact .inr (h3.lt b hb').1
  · have hcs' : cur.size = cap := by simpa using hcs
    by_cases hroom : n + s.size ≤ cap
    · have hr2 := run_append_room_string (P := Tryz.prog) w 83 9 ty 5 i Tryz.underlying83 Tryz.underlying9 hi hs g n cap cur hg s hroom (by omega)
      rw [hr] at hr2
      injection hr2 with e1 e2
      subst e1
      exact .inl hb'
    · have hxl : xs.length = n := by simpa using hown.1
      have hr2 := run_append_grow_string (P := Tryz.prog) w 83 9 ty 5 i (.int .u8 0) Tryz.underlying83 Tryz.underlying9 hi hz ⟨g, 0, none⟩ n cap xs (by rw [hs]; simpa using hxl) (hown.cells (g := g) rfl) s (by omega) (by omega) (by rw [hby]; exact growslice_fits (by omega) (by omega))
      rw [hr] at hr2
      injection hr2 with e1 e2
      subst e1
      have : w.heap.size = b := by simpa [Value.ownBlock] using hb'
      exact .inr (Nat.le_of_eq this)

section
variable {w : World} {ops : Array Oper} {o : Oper} {a : Act} {K : Act → World → Prop} {Q : Exit → Act → World → Prop} {E : Prop}
theorem step_append_str (hgd : o.guard = none) (sl x : Operand) (ho : o.op = .call { callee := .builtin .append, args := #[sl, x], argTypes := #[83, 9] })
    (v : Value) (n : Nat) (xs : List Value) (hs : a.eval sl = v) (hown : w.ownsRow 0 5 1 v n xs) (s : ByteArray) (hx : a.eval x = .string s) (hb : n + s.size ≤ 1048576)
    (h : ∀ v' w', w'.ownsRow 0 5 1 v' (n + s.size) (xs ++ strCells s) → w.grownBy w' v.ownBlock → (∀ b, v'.ownBlock = some b → v.ownBlock = some b ∨ w.heap.size ≤ b) → K (a.put o.dst v') w') :
    if Region.wanted o (yielded ops a.tmps) = true then Oper.wp Tryz.prog o a w K Q else E := by
  have hw : Region.wanted o (yielded ops a.tmps) = true := by simp [Region.wanted, hgd]
  rw [if_pos hw]
  obtain ⟨v', w', hr, h2, h3, h4⟩ := append_str w o.type v n xs hown s hb
  unfold Oper.wp execOp
  simp only [ho, resolve, invoke, builtin, Sem.run_bind, Sem.run_pure, Result.andThen_ok, List.map_toArray, List.map_cons, List.map_nil, hs, hx, hr]
  exact h v' w' h2 h3 h4
theorem step_delete (hgd : o.guard = none) (m x : Operand) (ho : o.op = .call { callee := .builtin .delete, args := #[m, x], argTypes := #[62, 9] })
    (mb n : Nat) (D : DataW Unit) (hm : a.eval m = .map (some mb)) (hown : w.ownsMap Tryz.prog 9 ptrE mb n D) (s : ByteArray) (hx : a.eval x = .string s) (hs : s.size ≤ maxLen)
    (h : ∀ w', w'.ownsMap Tryz.prog 9 ptrE mb n (D.del (.string s.data.toList)) → w.mapTurned w' mb → K (a.put o.dst (.tuple #[])) w') :
    if Region.wanted o (yielded ops a.tmps) = true then Oper.wp Tryz.prog o a w K Q else E := by
  have hw : Region.wanted o (yielded ops a.tmps) = true := by simp [Region.wanted, hgd]
  rw [if_pos hw]
  obtain ⟨w', hrun, r1, r2⟩ := hown.drop (string_keyed Tryz.underlying9) Tryz.underlying62 (keyOf_string_mk Tryz.underlying9 hs) o.type
  unfold Oper.wp
  simp [execOp, ho, resolve, invoke, builtin, hm, hx, hrun, Result.andThen]
  exact h w' r1 r2
end
end Go.Proofs.YtmknbakfjhjfmaaGreatDoor.fil

/-! Files: what a stroke does. -/
namespace Go.Proofs.YtmknbakfjhjfmaaGreatDoor.fil
open Go.RowKit Go.Lib Go.Maps Go.WideMaps
set_option linter.unusedVariables false
set_option linter.unusedSimpArgs false
set_option linter.unnecessarySimpa false
set_option linter.unusedSectionVars false

section
variable {q : Bool} {w w' w'' : World} {F F' : Nat → Prop} {fb mb : Nat} {D : DataW Unit} {G : List Gf} {dp : Option Addr} {s s' : St}

theorem Wentz.trans (hT : Turned F w w') (hF : ∀ b, F' b → F b ∨ w.heap.size ≤ b) (h : Wentz q F' fb s w' w'') : Wentz q F fb s w w'' := by
  obtain ⟨h1, F2, h2, h3⟩ := h
  refine ⟨hT.trans h1 hF, F2, fun b hb => ?_, h3⟩
  rcases h2 b hb with h4 | h4
  · exact hF b h4
  · have := hT.size; exact .inr (by omega)
theorem Wentz.drewN (h : Wentz q F fb s w w') (n : Nat) : Wentz q F fb s w (w'.drewN n) := by
  obtain ⟨h1, F2, h2, mb, D, G, dp, h3⟩ := h
  exact ⟨h1.drewN n, F2, h2, mb, D, G, dp, h3.drewN n⟩
theorem Wentz.fromN {n : Nat} (h : Wentz q F fb s (w.drewN n) w') : Wentz q F fb s w w' := ⟨⟨h.1.os, h.1.tape, h.1.output, h.1.size, h.1.block⟩, h.2⟩
theorem Wentz.from1 (h : Wentz q F fb s w.drew w') : Wentz q F fb s w w' := ⟨⟨h.1.os, h.1.tape, h.1.output, h.1.size, h.1.block⟩, h.2⟩
theorem Wentz.of_same (h : Wentz q F fb s w w') (e : s = s') : Wentz q F fb s' w w' := e ▸ h

theorem Fz.wentFile (h : Fz q w fb mb D G dp s F) {g g' : Gf} (hg : g ∈ G) (hn : g'.f.name = g.f.name) (hbk : g'.blk = g.blk) (hT : Turned (fun b => b = g.blk ∨ g.v.ownBlock = some b) w w')
    (h1 : At w' g.blk 85 #[g'.v, .int .i64 g'.f.plat]) (h2 : w'.ownsRow 0 5 1 g'.v g'.f.bytes.length (bv g'.f.bytes))
    (h3 : ∀ b, g'.v.ownBlock = some b → g.v.ownBlock = some b ∨ w.heap.size ≤ b) (ho : OkF s.cap (ins s.files g'.f)) : Wentz q F fb { s with files := ins s.files g'.f } w w' := by
  refine ⟨hT.mono fun b hb => ?_, Plus F w w', fun b hb => hb.imp id (fun h => h.1), mb, D, rep g g' G, dp, h.turnFile hg hn hbk hT.size (fun b hb hb1 hb2 => hT.block b hb (fun e => e.elim hb1 hb2)) h1 h2 h3 ho⟩
  rcases hb with rfl | hb
  · exact (h.each g hg).mine
  · exact (h.each g hg).rowMine b hb

theorem ins_ins {l : List Fl} (h : Rise l) (x y : Fl) (he : x.name = y.name) : ins (ins l x) y = ins l y := by
  refine rise_ext (rise_ins (rise_ins h x) y) (rise_ins h y) ?_
  refine (List.perm_ext_iff_of_nodup ((rise_ins (rise_ins h x) y).imp fun hab e => lt_ne hab (congrArg Fl.name e)) ((rise_ins h y).imp fun hab e => lt_ne hab (congrArg Fl.name e))).2 fun z => ?_
  rw [mem_ins, mem_ins, mem_ins]
  constructor
  · rintro (h | ⟨rfl | h, hn⟩)
    · exact .inl h
    · exact absurd he hn
    · exact .inr ⟨h.1, hn⟩
  · rintro (h | ⟨h, hn⟩)
    · exact .inl h
    · exact .inr ⟨.inr ⟨h, by rw [he]; exact hn⟩, hn⟩

theorem own_form2 {w : World} {base e n : Nat} {v : Value} {xs : List Value} (h : w.ownsRow base e 1 v n xs) : ∃ A c, v = .slice A n c ∧ n ≤ c ∧ c ≤ maxLen := by
  rcases h.2 with ⟨hv, h0⟩ | ⟨b, cap, _, hv, _, _, h1, h2, _⟩
  · exact ⟨none, 0, by rw [hv, h0], by omega, Nat.zero_le _⟩
  · exact ⟨_, _, hv, h1, h2⟩
theorem ownBlock_len (A : Option Addr) (n m c d : Nat) : (Value.slice A n c).ownBlock = (Value.slice A m d).ownBlock := by cases A <;> rfl
/-- The row's first m cells, as a slice. -/
theorem own_front {w : World} {e n : Nat} {A : Option Addr} {c : Nat} {xs : List Value} (h : w.ownsRow 0 e 1 (.slice A n c) n xs) {m : Nat} (hm : m ≤ n) : w.ownsRow 0 e 1 (.slice A m c) m (xs.take m) := by
  have hl : xs.length = n := by simpa using h.1
  refine ⟨by rw [List.length_take]; omega, ?_⟩
  rcases h.2 with ⟨hv, h0⟩ | ⟨b, cap, cur, hv, hb, hh, h1, h2, h3, h4⟩
  · simp at hv
    obtain ⟨rfl, _, rfl⟩ := hv
    have : m = 0 := by omega
    subst this
    exact .inl ⟨rfl, rfl⟩
  · injection hv with e1 e2 e3
    subst e1 e3
    refine .inr ⟨b, c, cur, rfl, hb, hh, by omega, h2, h3, ?_⟩
    rw [← h4, List.take_take]
    congr 1
    omega

/-! ### Sync -/
theorem syncD (b1 b2 : Nat) (nm : ByteArray) (w : World) (hn : nm.size ≤ maxLen) (h1 : Box w b1 32 (.pointer (some ⟨fb, 0, none⟩))) (h2 : Box w b2 9 (.string nm)) (h : Fz q w fb mb D G dp s F) (he : errThere s nm.data.toList = 0) :
    Calls Tryz.prog 50 #[.pointer (some ⟨b1, 0, none⟩), .pointer (some ⟨b2, 0, none⟩)] w fun e w' => e = .returned (.tuple #[]) ∧ Wentz q F fb { s with files := doSync s nm.data.toList } w w' := by
  have k1 := h1.cell
  have k2 := h2.cell
  have c1 := h.cells.2.1
  have ho := okf_sync h.ok nm.data.toList
  unfold errThere at he
  unfold doSync at ho ⊢
  rcases hf : find s.files nm.data.toList with _ | x
  · rw [hf] at he; cases he
  obtain ⟨g, hg, rfl, hgn⟩ := h.has hf
  have L := fun k => (h.drewN k).look1 nm hn hg hgn
  have E := h.each g hg
  have c4 : w.cell? ⟨g.blk, 0, none⟩ = some g.v := E.blk.cell 0
  have c5 : w.cell? ⟨g.blk, 1, none⟩ = some (.int .i64 g.f.plat) := E.blk.cell 1
  have c6 : w.frozen? ⟨g.blk, 1, none⟩ = false := E.blk.frozen 1
  rw [hf] at ho
  dsimp only at ho ⊢
  have HW : Hid (∀ k, Wentz q F fb { s with files := ins s.files ⟨nm.data.toList, g.f.bytes, g.f.bytes.length⟩ } w ((w.drewN k).setCell ⟨g.blk, 1, none⟩ (.int .i64 (g.f.bytes.length : Int)))) := Lib.hid fun k => by
    refine ((h.drewN k).wentFile (g' := ⟨⟨nm.data.toList, g.f.bytes, g.f.bytes.length⟩, g.blk, g.v⟩) hg hgn.symm rfl ((Turned.refl _ _).setCell (.inl (.inl rfl)) _) ?_ ?_ (fun b e => .inl e) ho).fromN
    · exact At.set (w := w.drewN k) E.blk 1 _
    · exact own_same E.row fun b e => Below.heap_setCell (w.drewN k) _ _ _ (fun e2 => h.neRowBlk hg hg (by rw [e, e2]))
  obtain ⟨A, c, hv⟩ := own_form E.row
  rw [hv] at c4
  clear h h1 h2 hf hg E hv he hgn ho
  generalize g.f.bytes.length = gl at *
  generalize g.blk = gb at *
  go_enter Tryz.func50, Tryz.ntmps50
  go_wp2
  go_quiet (fail)
  go_wp2
  go_end0
  exact ⟨rfl, HW.out _⟩

/-! ### Truncate -/
end
end Go.Proofs.YtmknbakfjhjfmaaGreatDoor.fil

/-! Files: what a stroke does that turns which files there are. -/
namespace Go.Proofs.YtmknbakfjhjfmaaGreatDoor.fil
open Go.RowKit Go.Lib Go.Maps Go.WideMaps
set_option linter.unusedVariables false
set_option linter.unusedSimpArgs false
set_option linter.unnecessarySimpa false
set_option linter.unusedSectionVars false

section
variable {q : Bool} {w w' w'' : World} {F F' : Nat → Prop} {fb mb : Nat} {D : DataW Unit} {G : List Gf} {dp : Option Addr} {s s' : St}

theorem turned_cell {b i : Nat} {v : Value} (ht : w.mapTurned w' mb) (hb : b ≠ mb) (hc : w.cell? ⟨b, i, none⟩ = some v) : w'.cell? ⟨b, i, none⟩ = some v :=
  ht.grown.cell hc (fun e => hb (Option.some.inj e))
theorem Turned.of_map (ht : w.mapTurned w' mb) : Turned (fun b => b = mb) w w' := ⟨ht.grown.os, ht.grown.tape, ht.grown.output, ht.grown.size, fun b hb hn => ht.grown.block b hb (fun e => hn (Option.some.inj e))⟩
theorem Turned.of_grown (ht : w.grownBy w' (some mb)) : Turned (fun b => b = mb) w w' := ⟨ht.os, ht.tape, ht.output, ht.size, fun b hb hn => ht.block b hb (fun e => hn (Option.some.inj e))⟩

theorem cellA {b i k : Nat} {v : Value} {o : Obj} (hb : b < w.heap.size) (hc : w.cell? ⟨b, i, none⟩ = some v) : ((w.drewN k).alloc o).drew.cell? ⟨b, i, none⟩ = some v :=
  (World.cell?_alloc_past (w := w.drewN k) o b i hb).trans hc

/-! ### Remove -/
set_option maxHeartbeats 1000000 in
theorem removeD (b1 b2 : Nat) (nm : ByteArray) (w : World) (hn : nm.size ≤ maxLen) (h1 : Box w b1 32 (.pointer (some ⟨fb, 0, none⟩))) (h2 : Box w b2 9 (.string nm)) (h : Fz q w fb mb D G dp s F) :
    Calls Tryz.prog 54 #[.pointer (some ⟨b1, 0, none⟩), .pointer (some ⟨b2, 0, none⟩)] w fun e w' => e = .returned (.tuple #[]) ∧ Wentz q F fb { s with files := del s.files nm.data.toList } w w' := by
  have k1 := h1.cell
  have k2 := h2.cell
  have c1 := h.cells.2.1
  have n1 : b1 ≠ mb := At.ne_map h1 h.map
  have n2 : b2 ≠ mb := At.ne_map h2 h.map
  have n3 : fb ≠ mb := h.neMap
  have hm : w.drew.ownsMap Tryz.prog 9 ptrE mb G.length D := h.map
  have HW : Hid (∀ w', w'.ownsMap Tryz.prog 9 ptrE mb G.length (D.del (.string nm.data.toList)) → w.drew.mapTurned w' mb → Wentz q F fb { s with files := del s.files nm.data.toList } w w') := Lib.hid fun w' hm' ht => by
    have hT := Turned.of_map ht
    exact Wentz.from1 ⟨hT.mono fun b hb => by rw [hb]; exact h.mineM, Plus F w.drew w', fun b hb => hb.imp id fun h => h.1, mb, _, _, dp, h.drew.without nm.data.toList hT.size (fun b hb hne => hT.block b hb hne) hm'⟩
  clear h h1 h2
  go_enter Tryz.func54, Tryz.ntmps54
  go_wp2
  have e1 : w.drew.cell? ⟨b1, 0, none⟩ = some (.pointer (some ⟨fb, 0, none⟩)) := k1
  have e2 : w.drew.cell? ⟨b2, 0, none⟩ = some (.string nm) := k2
  have e3 : w.drew.cell? ⟨fb, 1, none⟩ = some (.map (some mb)) := c1
  go_region_held3 (fun W => W.cell? ⟨b1, 0, none⟩ = some (.pointer (some ⟨fb, 0, none⟩)) ∧ W.cell? ⟨b2, 0, none⟩ = some (.string nm) ∧ W.cell? ⟨fb, 1, none⟩ = some (.map (some mb))) (exact ⟨by assumption, by assumption, by assumption⟩)
    (first
      | (refine step_delete rfl _ _ rfl mb G.length D rfl hm nm rfl hn ?_; intro w1 hm1 ht1; have q1 := turned_cell ht1 n1 e1; have q2 := turned_cell ht1 n2 e2; have q3 := turned_cell ht1 n3 e3))
  go_end0
  exact ⟨rfl, HW.out w1 hm1 ht1⟩

/-! ### Rename -/
set_option maxHeartbeats 2000000 in
theorem renameD (b1 b2 b3 : Nat) (a b : ByteArray) (w : World) (ha : a.size ≤ maxLen) (hb : b.size ≤ maxLen) (h1 : Box w b1 32 (.pointer (some ⟨fb, 0, none⟩))) (h2 : Box w b2 9 (.string a)) (h3 : Box w b3 9 (.string b)) (h : Fz q w fb mb D G dp s F) (he : errRename s a.data.toList b.data.toList = 0) :
    Calls Tryz.prog 74 #[.pointer (some ⟨b1, 0, none⟩), .pointer (some ⟨b2, 0, none⟩), .pointer (some ⟨b3, 0, none⟩)] w fun e w' => e = .returned (.tuple #[]) ∧ Wentz q F fb { s with files := doRename s a.data.toList b.data.toList } w w' := by
  have k1 := h1.cell
  have k2 := h2.cell
  have k3 := h3.cell
  have c1 := h.cells.2.1
  have n1 : b1 ≠ mb := At.ne_map h1 h.map
  have n2 : b2 ≠ mb := At.ne_map h2 h.map
  have n3 : fb ≠ mb := h.neMap
  have n4 : b3 ≠ mb := At.ne_map h3 h.map
  have ho := okf_rename h.ok he
  unfold errRename at he
  unfold doRename at ho ⊢
  rcases hf : find s.files a.data.toList with _ | x
  · rw [hf] at he; cases he
  obtain ⟨g, hg, rfl, hgn⟩ := h.has hf
  rw [hf] at ho
  dsimp only at ho ⊢
  have L := fun k => (h.drewN k).look1 a ha hg hgn
  -- behind the taking away
  have H1 : ∀ k w', w'.ownsMap Tryz.prog 9 ptrE mb G.length (D.del (.string a.data.toList)) → (w.drewN k).drew.mapTurned w' mb →
      Fz q w' fb mb (D.del (.string a.data.toList)) (G.filter fun g => !(g.f.name == a.data.toList)) dp { s with files := del s.files a.data.toList } (Plus F w w') ∧ FileAt w' (Plus F w w') g ∧ Turned F w w' := fun k w' hm' ht => by
    have hT := Turned.of_map ht
    have hT2 : Turned (fun b => b = mb) w w' := ⟨hT.os, hT.tape, hT.output, hT.size, hT.block⟩
    have hb' : ∀ b, b < w.heap.size → b ≠ mb → w'.heap[b]? = w.heap[b]? := fun b hb hne => hT2.block b hb hne
    exact ⟨h.without a.data.toList hT2.size hb' hm', h.stays hb' hg, hT2.mono fun b hb => by rw [hb]; exact h.mineM⟩
  have H2 : ∀ k w' w'', w'.ownsMap Tryz.prog 9 ptrE mb G.length (D.del (.string a.data.toList)) → (w.drewN k).drew.mapTurned w' mb → ∀ n, w''.ownsMap Tryz.prog 9 ptrE mb n ((D.del (.string a.data.toList)).put (.string b.data.toList) (.lit (.int .i64 g.blk))) → w'.drew.grownBy w'' (some mb) →
      Wentz q F fb { s with files := ins (del s.files a.data.toList) ⟨b.data.toList, g.f.bytes, g.f.plat⟩ } w w'' := fun k w' w'' hm' ht n hm'' hg'' => by
    obtain ⟨hF1, hA1, hT1⟩ := H1 k w' hm' ht
    have hT := Turned.of_grown hg''
    have hT2 : Turned (fun b => b = mb) w' w'' := ⟨hT.os, hT.tape, hT.output, hT.size, hT.block⟩
    have hb' : ∀ b, b < w'.heap.size → b ≠ mb → w''.heap[b]? = w'.heap[b]? := fun b hb hne => hT2.block b hb hne
    have hgm : g.blk ≠ mb := At.ne_map hA1.blk hF1.map
    have hA2 : FileAt w'' (Plus (Plus F w w') w' w'') ⟨⟨b.data.toList, g.f.bytes, g.f.plat⟩, g.blk, g.v⟩ := by
      have e := (hA1.kept (w' := w'') (hb' _ hA1.blk.lt hgm) (fun x e => hb' x (hF1.lt x (hA1.rowMine x e)) (fun e2 => by
        obtain ⟨cs, hc⟩ := own_at hA1.row e
        exact hc.ne_map hF1.map e2))).mono (F' := Plus (Plus F w w') w' w'') fun b hF => .inl hF
      exact ⟨e.blk, e.mine, e.row, e.rowMine⟩
    have hF2 := hF1.withFile (w' := w'') ⟨⟨b.data.toList, g.f.bytes, g.f.plat⟩, g.blk, g.v⟩ hT2.size hb' hm'' hA2 (fun x hx _ => by
      obtain ⟨hx1, hx2⟩ := List.mem_filter.1 hx
      have hne : g.blk ≠ x.blk := fun e => by
        have := h.one hg hx1 e
        rw [← this, hgn] at hx2
        simp at hx2
      exact ⟨hne, fun y e => h.rows hg hx1 hne e⟩) ho
    refine Wentz.trans hT1 (F' := Plus F w w') (fun b hb => hb.imp id fun h => h.1) ⟨hT2.mono fun b hb => by rw [hb]; exact hF1.mineM, _, fun b hb => hb.imp id fun h => h.1, mb, _, _, dp, hF2⟩
  have H2 := Lib.hid H2
  clear H1
  have HM := Lib.hid (fun k => (show (w.drewN k).drew.ownsMap Tryz.prog 9 ptrE mb G.length D from h.map))
  have hlen : G.length < maxLen := by have := h.ok.few; rw [h.files, List.length_map] at this; unfold maxLen; omega
  clear h h1 h2 h3 hf hg hgn ho he
  generalize g.blk = gb at *
  go_enter Tryz.func74, Tryz.ntmps74
  go_wp2
  go_quiet (fail)
  go_wp2
  have hm := HM.out nq
  have e1 : (w.drewN nq).drew.cell? ⟨b1, 0, none⟩ = some (.pointer (some ⟨fb, 0, none⟩)) := k1
  have e2 : (w.drewN nq).drew.cell? ⟨b2, 0, none⟩ = some (.string a) := k2
  have e3 : (w.drewN nq).drew.cell? ⟨fb, 1, none⟩ = some (.map (some mb)) := c1
  have e4 : (w.drewN nq).drew.cell? ⟨b3, 0, none⟩ = some (.string b) := k3
  have H2' := Lib.hid (H2.out nq)
  clear H2 HM L k1 k2 k3 c1
  generalize w.drewN nq = wq at *
  go_region_held3 (fun W => W.cell? ⟨b1, 0, none⟩ = some (.pointer (some ⟨fb, 0, none⟩)) ∧ W.cell? ⟨b2, 0, none⟩ = some (.string a) ∧ W.cell? ⟨fb, 1, none⟩ = some (.map (some mb))) (exact ⟨by assumption, by assumption, by assumption⟩)
    (first
      | (refine step_delete rfl _ _ rfl mb G.length D rfl hm a rfl ha ?_; intro w1 hm1 ht1; have q1 := turned_cell ht1 n1 e1; have q2 := turned_cell ht1 n2 e2; have q3 := turned_cell ht1 n3 e3; have q4 := turned_cell ht1 n4 e4))
  obtain ⟨w2, hU, hm2, hg2⟩ := (show w1.drew.ownsMap Tryz.prog 9 ptrE mb G.length (D.del (.string a.data.toList)) from hm1).update (string_keyed Tryz.underlying9) Tryz.underlying62 hlen (keyOf_string_mk Tryz.underlying9 hb) (val := .pointer (some ⟨gb, 0, none⟩)) (d := .lit (.int .i64 gb)) (ps := []) rfl
  have HZ := Lib.hid (H2'.out w1 w2 hm1 ht1 _ hm2 hg2)
  have r1 : w1.drew.cell? ⟨b1, 0, none⟩ = some (.pointer (some ⟨fb, 0, none⟩)) := q1
  have r3 : w1.drew.cell? ⟨fb, 1, none⟩ = some (.map (some mb)) := q3
  have r4 : w1.drew.cell? ⟨b3, 0, none⟩ = some (.string b) := q4
  have z1 : w2.cell? ⟨b1, 0, none⟩ = some (.pointer (some ⟨fb, 0, none⟩)) := hg2.cell r1 (fun e => n1 (Option.some.inj e))
  have z3 : w2.cell? ⟨fb, 1, none⟩ = some (.map (some mb)) := hg2.cell r3 (fun e => n3 (Option.some.inj e))
  have z4 : w2.cell? ⟨b3, 0, none⟩ = some (.string b) := hg2.cell r4 (fun e => n4 (Option.some.inj e))
  clear q2 e1 e2 e3 e4 hm2 hg2 hm1 ht1 H2' hm
  go_wp2
  go_region_held3 (fun W => W.cell? ⟨b1, 0, none⟩ = some (.pointer (some ⟨fb, 0, none⟩)) ∧ W.cell? ⟨b3, 0, none⟩ = some (.string b) ∧ W.cell? ⟨fb, 1, none⟩ = some (.map (some mb))) (exact ⟨by assumption, by assumption, by assumption⟩)
    (fail)
  go_end0
  exact ⟨rfl, HZ.out⟩

/-! ### Append -/
/-- The bytes are laid behind those of a file that is there. -/
def Laid (w : World) (fb : Nat) (F : Nat → Prop) (s : St) (nm t : List UInt8) (w' : World) : Prop := ∃ x, find s.files nm = some x ∧ Wentz q F fb { s with files := ins s.files ⟨nm, x.bytes ++ t, x.plat⟩ } w w'
theorem Fz.laid (h : Fz q w fb mb D G dp s F) {g : Gf} {nm : List UInt8} {t : ByteArray} (hg : g ∈ G) (hgn : g.f.name = nm) (ho : OkF s.cap (ins s.files ⟨nm, g.f.bytes ++ t.data.toList, g.f.plat⟩)) (k : Nat) {v' : Value} {w1 : World}
    (hrow : w1.ownsRow 0 5 1 v' (g.f.bytes.length + t.size) (bv g.f.bytes ++ strCells t)) (hgr : (w.drewN k).grownBy w1 g.v.ownBlock) (hloc : ∀ b, v'.ownBlock = some b → g.v.ownBlock = some b ∨ w.heap.size ≤ b) :
    Wentz q F fb { s with files := ins s.files ⟨nm, g.f.bytes ++ t.data.toList, g.f.plat⟩ } w (w1.setCell ⟨g.blk, 0, none⟩ v') := by
  have E := h.each g hg
  have hrl := hrow.lt
  have hz : t.data.toList.length = t.size := by rw [Array.length_toList]; rfl
  have hT : Turned (fun b => b = g.blk ∨ g.v.ownBlock = some b) (w.drewN k) (w1.setCell ⟨g.blk, 0, none⟩ v') :=
    ((Turned.refl _ _).grown hgr (fun b e => .inl (.inr e))).setCell (.inl (.inl rfl)) _
  refine Wentz.fromN (n := k) ((h.drewN k).wentFile (g' := ⟨⟨nm, g.f.bytes ++ t.data.toList, g.f.plat⟩, g.blk, v'⟩) hg hgn.symm rfl hT ?_ ?_ hloc ho)
  · have e : At w1 g.blk 85 #[g.v, .int .i64 g.f.plat] := At.same (w := w.drewN k) E.blk (hgr.block g.blk E.blk.lt (fun e => h.neRowBlk hg hg e.symm))
    exact At.set e 0 v'
  · show World.ownsRow _ 0 5 1 v' (g.f.bytes ++ t.data.toList).length (bv (g.f.bytes ++ t.data.toList))
    rw [List.length_append, hz, bv_append, ← bv_cells]
    refine own_same hrow fun b e => Below.heap_setCell _ _ _ _ (fun e2 => ?_)
    rcases hloc b e with h1 | h1
    · exact h.neRowBlk hg hg (by rw [h1, e2])
    · have := E.blk.lt
      have e3 : b = g.blk := e2
      omega

theorem doAppend_ok {s : St} (h : Ok s) {nm t : List UInt8} (he : errAppend s nm t.length = 0) {x : Fl} (hf : find s.files nm = some x) : OkF s.cap (ins s.files ⟨nm, x.bytes ++ t, x.plat⟩) ∧ x.bytes.length + t.length ≤ 1048576 := by
  have h1 := okf_append h he
  unfold doAppend at h1
  rw [hf] at h1
  dsimp only at h1
  have h2 := total_mem (l := ins s.files ⟨nm, x.bytes ++ t, x.plat⟩) (mem_ins.2 (.inl rfl))
  have h3 := h1.room
  have h4 := h.cap2
  have h5 : (x.bytes ++ t).length = x.bytes.length + t.length := List.length_append
  refine ⟨h1, ?_⟩
  simp only at h2
  omega

set_option maxHeartbeats 2000000 in
theorem appendOld (b1 b2 b3 : Nat) (nm t : ByteArray) (w : World) (hn : nm.size ≤ maxLen) (h1 : Box w b1 32 (.pointer (some ⟨fb, 0, none⟩))) (h2 : Box w b2 9 (.string nm)) (h3 : Box w b3 9 (.string t)) (h : Fz q w fb mb D G dp s F) (he : errAppend s nm.data.toList t.data.toList.length = 0) {x : Fl} (hf : find s.files nm.data.toList = some x) :
    Calls Tryz.prog 47 #[.pointer (some ⟨b1, 0, none⟩), .pointer (some ⟨b2, 0, none⟩), .pointer (some ⟨b3, 0, none⟩)] w fun e w' => e = .returned (.tuple #[]) ∧ Wentz q F fb { s with files := ins s.files ⟨nm.data.toList, x.bytes ++ t.data.toList, x.plat⟩ } w w' := by
  have k1 := h1.cell
  have k2 := h2.cell
  have k3 := h3.cell
  have c1 := h.cells.2.1
  have hz : t.data.toList.length = t.size := by rw [Array.length_toList]; rfl
  obtain ⟨ho, hbd⟩ := doAppend_ok h.ok he hf
  obtain ⟨g, hg, rfl, hgn⟩ := h.has hf
  have L := fun k => (h.drewN k).look1 nm hn hg hgn
  have E := h.each g hg
  have c4 : w.cell? ⟨g.blk, 0, none⟩ = some g.v := E.blk.cell 0
  have c6 : w.frozen? ⟨g.blk, 0, none⟩ = false := E.blk.frozen 0
  rw [hz] at hbd
  have HR : Hid (∀ k, (w.drewN k).ownsRow 0 5 1 g.v g.f.bytes.length (bv g.f.bytes)) := Lib.hid fun k => E.row
  have HW : Hid (∀ k v' w1, w1.ownsRow 0 5 1 v' (g.f.bytes.length + t.size) (bv g.f.bytes ++ strCells t) → (w.drewN k).drew.grownBy w1 g.v.ownBlock → (∀ b, v'.ownBlock = some b → g.v.ownBlock = some b ∨ (w.drewN k).drew.heap.size ≤ b) →
      Wentz q F fb { s with files := ins s.files ⟨nm.data.toList, g.f.bytes ++ t.data.toList, g.f.plat⟩ } w (w1.setCell ⟨g.blk, 0, none⟩ v') ∧ w1.cell? ⟨g.blk, 0, none⟩ = some g.v ∧ w1.frozen? ⟨g.blk, 0, none⟩ = false) := Lib.hid fun k v' w1 hr hg' hl => by
    have e : At w1 g.blk 85 #[g.v, .int .i64 g.f.plat] := At.same (w := w.drewN k) E.blk (hg'.block g.blk E.blk.lt (fun e => h.neRowBlk hg hg e.symm))
    exact ⟨h.laid hg hgn ho k hr ⟨hg'.os, hg'.tape, hg'.output, hg'.size, hg'.block⟩ hl, e.cell 0, e.frozen 0⟩
  clear h h1 h2 h3 hf hg E hgn ho he
  generalize g.blk = gb at *
  generalize g.v = gv at *
  generalize g.f.bytes.length = gl at *
  go_enter Tryz.func47, Tryz.ntmps47
  go_wp2
  go_quiet (fail)
  go_wp2
  go_quiet (fail)
  go_wp2
  rename_i n0
  have d3 : ((w.drewN n0).drewN nq).cell? ⟨b3, 0, none⟩ = some (.string t) := k3
  have d4 : ((w.drewN n0).drewN nq).cell? ⟨gb, 0, none⟩ = some gv := c4
  have d6 : ((w.drewN n0).drewN nq).frozen? ⟨gb, 0, none⟩ = false := c6
  have R1 : ((w.drewN n0).drewN nq).drew.ownsRow 0 5 1 gv gl (bv g.f.bytes) := HR.out (n0 + nq)
  have HZ := HW.out (n0 + nq)
  rw [← World.drewN_drewN] at HZ
  have HZ := Lib.hid HZ
  clear HR HW L k1 k2 k3 c1 c4 c6
  generalize (w.drewN n0).drewN nq = wq at *
  go_region_law (refine step_append_str rfl _ _ rfl gv gl (bv g.f.bytes) rfl R1 t rfl hbd ?_; intro v1 w1 hr1 hg1 hl1; obtain ⟨A1, c1, rfl⟩ := own_form hr1; obtain ⟨z1, z2, z3⟩ := HZ.out _ w1 hr1 hg1 hl1)
  all_goals (go_end0; exact ⟨rfl, z1⟩)

set_option maxHeartbeats 4000000 in
theorem appendNew (b1 b2 b3 : Nat) (nm t : ByteArray) (w : World) (hn : nm.size ≤ maxLen) (h1 : Box w b1 32 (.pointer (some ⟨fb, 0, none⟩))) (h2 : Box w b2 9 (.string nm)) (h3 : Box w b3 9 (.string t)) (h : Fz q w fb mb D G dp s F) (he : errAppend s nm.data.toList t.data.toList.length = 0) (hf : find s.files nm.data.toList = none) :
    Calls Tryz.prog 47 #[.pointer (some ⟨b1, 0, none⟩), .pointer (some ⟨b2, 0, none⟩), .pointer (some ⟨b3, 0, none⟩)] w fun e w' => e = .returned (.tuple #[]) ∧ Wentz q F fb { s with files := ins s.files ⟨nm.data.toList, t.data.toList, 0⟩ } w w' := by
  have k1 := h1.cell
  have k2 := h2.cell
  have k3 := h3.cell
  have c1 := h.cells.2.1
  have n1 : b1 ≠ mb := At.ne_map h1 h.map
  have n2 : b2 ≠ mb := At.ne_map h2 h.map
  have n3 : fb ≠ mb := h.neMap
  have n4 : b3 ≠ mb := At.ne_map h3 h.map
  have m1 : b1 < w.heap.size := At.lt h1
  have m2 : b2 < w.heap.size := At.lt h2
  have m3 : fb < w.heap.size := h.head.lt
  have m4 : b3 < w.heap.size := At.lt h3
  have m5 : mb < w.heap.size := h.map.lt
  have hz : t.data.toList.length = t.size := by rw [Array.length_toList]; rfl
  obtain ⟨hi, hrm, hfw⟩ := errAppend_ok he
  have hfw := hfw hf
  have ho2 : OkF s.cap (ins s.files ⟨nm.data.toList, t.data.toList, 0⟩) := by
    have := okf_append h.ok he
    unfold doAppend at this
    rw [hf] at this
    exact this
  have ho1 : OkF s.cap (ins s.files ⟨nm.data.toList, [], 0⟩) := okf_ins h.ok.f _ hi (Nat.zero_le _)
    (by show 0 + total (del s.files nm.data.toList) ≤ _; have := total_del_le s.files nm.data.toList; omega) (by show 1 + (del s.files nm.data.toList).length ≤ 32; have := length_del_le s.files nm.data.toList; omega)
  have hbd : 0 + t.size ≤ 1048576 := by have := h.ok.cap2; omega
  have L := fun k => (h.drewN k).look0 nm hn hf
  have hlen : G.length < maxLen := by have := h.ok.few; rw [h.files, List.length_map] at this; unfold maxLen; omega
  -- behind the laying in of a file of no bytes
  have H1 : ∀ k w3 n, w3.ownsMap Tryz.prog 9 ptrE mb n (D.put (.string nm.data.toList) (.lit (.int .i64 w.heap.size))) → (((w.drewN k).alloc (.cells #[.slice none 0 0, .int .i64 0] 85)).drew).grownBy w3 (some mb) →
      ∃ D3 G3 F3 g3, Fz q w3 fb mb D3 G3 dp { s with files := ins s.files ⟨nm.data.toList, [], 0⟩ } F3 ∧ (∀ b, F3 b → F b ∨ w.heap.size ≤ b) ∧ Turned F w w3 ∧ g3 ∈ G3 ∧ g3 = ⟨⟨nm.data.toList, [], 0⟩, w.heap.size, .slice none 0 0⟩ := fun k w3 n hm hg => by
    have hB : Below w.heap.size w ((w.drewN k).alloc (.cells #[.slice none 0 0, .int .i64 0] 85)).drew := ((below_drewN (Below.refl _ _) k).alloc (Nat.le_refl _) _).drew
    have hA : At ((w.drewN k).alloc (.cells #[.slice none 0 0, .int .i64 0] 85)).drew w.heap.size 85 #[.slice none 0 0, .int .i64 0] := At.new (w.drewN k) _ _
    have h' := h.below hB
    have hT := Turned.of_grown hg
    have hA3 : At w3 w.heap.size 85 #[.slice none 0 0, .int .i64 0] := hA.same (hT.block _ hA.lt (by omega))
    have hsz : w.heap.size < w3.heap.size := hA3.lt
    -- the system with its new block among those that it has
    have h'' : Fz q ((w.drewN k).alloc (.cells #[.slice none 0 0, .int .i64 0] 85)).drew fb mb D G dp s (Plus F w ((w.drewN k).alloc (.cells #[.slice none 0 0, .int .i64 0] 85)).drew) :=
      h'.mono (fun b hb => .inl hb) (Plus.lt h hB.size)
    have hW := h''.withFile (w' := w3) ⟨⟨nm.data.toList, [], 0⟩, w.heap.size, .slice none 0 0⟩ hT.size (fun b hb hne => hT.block b hb hne) hm
      ⟨hA3, .inl (.inr ⟨Nat.le_refl _, hA.lt⟩), World.ownsRow_nil _ _ _ _, fun b e => by cases e⟩
      (fun x hx _ => ⟨fun e => by have h1 := (h.each x hx).blk.lt; have h2 : w.heap.size = x.blk := e; omega, fun b e => by cases e⟩) ho1
    refine ⟨_, _, _, _, hW, fun b hb => ?_, (Turned.of_below hB F).trans (hT.mono (F' := F) fun b hb => by rw [hb]; exact h.mineM) (fun b hb => .inl hb), insG_mem (.inl rfl), rfl⟩
    rcases hb with (hb | hb) | hb
    · exact .inl hb
    · exact .inr hb.1
    · have := hB.size
      exact .inr (by omega)
  have H1 := Lib.hid H1
  have HM := Lib.hid (fun k => (show ((w.drewN k).alloc (.cells #[.slice none 0 0, .int .i64 0] 85)).drew.ownsMap Tryz.prog 9 ptrE mb G.length D from h.map.alloc _))
  have HR : Hid (Rise s.files) := Lib.hid h.ok.rise
  clear h1 h2 h3 h hf hi hrm hfw he ho1
  have ho2 := Lib.hid ho2
  go_enter Tryz.func47, Tryz.ntmps47
  go_wp2
  go_quiet (fail)
  go_wp2
  have H1' : Hid (∀ w3 n, w3.ownsMap Tryz.prog 9 ptrE mb n (D.put (.string nm.data.toList) (.lit (.int .i64 (w.drewN nq).heap.size))) → (((w.drewN nq).alloc (.cells #[.slice none 0 0, .int .i64 0] 85)).drew).grownBy w3 (some mb) →
      ∃ D3 G3 F3 g3, Fz q w3 fb mb D3 G3 dp { s with files := ins s.files ⟨nm.data.toList, [], 0⟩ } F3 ∧ (∀ b, F3 b → F b ∨ w.heap.size ≤ b) ∧ Turned F w w3 ∧ g3 ∈ G3 ∧ g3 = ⟨⟨nm.data.toList, [], 0⟩, (w.drewN nq).heap.size, .slice none 0 0⟩) := H1.out nq
  have HM' : Hid (((w.drewN nq).alloc (.cells #[.slice none 0 0, .int .i64 0] 85)).drew.ownsMap Tryz.prog 9 ptrE mb G.length D) := Lib.hid (HM.out nq)
  have e1 : (w.drewN nq).drew.cell? ⟨b1, 0, none⟩ = some (.pointer (some ⟨fb, 0, none⟩)) := k1
  have e2 : (w.drewN nq).drew.cell? ⟨b2, 0, none⟩ = some (.string nm) := k2
  have e3 : (w.drewN nq).drew.cell? ⟨fb, 1, none⟩ = some (.map (some mb)) := c1
  have a1 := cellA (k := nq) (o := .cells #[.slice none 0 0, .int .i64 0] 85) m1 k1
  have a2 := cellA (k := nq) (o := .cells #[.slice none 0 0, .int .i64 0] 85) m2 k2
  have a3 := cellA (k := nq) (o := .cells #[.slice none 0 0, .int .i64 0] 85) m3 c1
  have a4 := cellA (k := nq) (o := .cells #[.slice none 0 0, .int .i64 0] 85) m4 k3
  clear H1 HM L k1 k2 k3 c1
  generalize w.drewN nq = wq at *
  obtain ⟨w3, hU, hm3, hg3⟩ := HM'.out.update (string_keyed Tryz.underlying9) Tryz.underlying62 hlen (keyOf_string_mk Tryz.underlying9 hn) (val := .pointer (some ⟨wq.heap.size, 0, none⟩)) (d := .lit (.int .i64 wq.heap.size)) (ps := []) rfl
  have HZ1 := Lib.hid (H1'.out w3 _ hm3 hg3)
  have q1 := hg3.cell a1 (fun e => n1 (Option.some.inj e))
  have q2 := hg3.cell a2 (fun e => n2 (Option.some.inj e))
  have q3 := hg3.cell a3 (fun e => n3 (Option.some.inj e))
  have q4 := hg3.cell a4 (fun e => n4 (Option.some.inj e))
  clear H1' HM' hm3 hg3 a4
  go_region_held3 (fun W => W.cell? ⟨b1, 0, none⟩ = some (.pointer (some ⟨fb, 0, none⟩)) ∧ W.cell? ⟨b2, 0, none⟩ = some (.string nm) ∧ W.cell? ⟨fb, 1, none⟩ = some (.map (some mb))) (exact ⟨by with_reducible assumption, by with_reducible assumption, by with_reducible assumption⟩)
    (fail)
  clear hU a1 a2 a3 e1 e2 e3
  obtain ⟨D3, G3, F3, g3, hF3, hFF, hT3, hgG, hg3e⟩ := HZ1.out
  have hgn : g3.f.name = nm.data.toList := by rw [hg3e]
  have L3 := fun k => (hF3.drewN k).look1 nm hn hgG hgn
  have E := hF3.each g3 hgG
  have hb3 : g3.f.bytes = [] := by rw [hg3e]
  have hp3 : g3.f.plat = 0 := by rw [hg3e]
  have c4 : w3.cell? ⟨g3.blk, 0, none⟩ = some g3.v := E.blk.cell 0
  have c6 : w3.frozen? ⟨g3.blk, 0, none⟩ = false := E.blk.frozen 0
  have hr3 : w3.ownsRow 0 5 1 g3.v 0 [] := by have := E.row; rw [hb3] at this; exact this
  have ho3 : OkF s.cap (ins (ins s.files ⟨nm.data.toList, [], 0⟩) ⟨nm.data.toList, g3.f.bytes ++ t.data.toList, g3.f.plat⟩) := by
    rw [ins_ins HR.out ⟨nm.data.toList, [], 0⟩ ⟨nm.data.toList, g3.f.bytes ++ t.data.toList, g3.f.plat⟩ rfl, hb3, hp3]
    exact ho2.out
  have HR3 : Hid (∀ k, (w3.drewN k).ownsRow 0 5 1 g3.v 0 []) := Lib.hid fun k => hr3
  have HW : Hid (∀ k v' w1, w1.ownsRow 0 5 1 v' (0 + t.size) ([] ++ strCells t) → (w3.drewN k).drew.grownBy w1 g3.v.ownBlock → (∀ b, v'.ownBlock = some b → g3.v.ownBlock = some b ∨ (w3.drewN k).drew.heap.size ≤ b) →
      Wentz q F fb { s with files := ins s.files ⟨nm.data.toList, t.data.toList, 0⟩ } w (w1.setCell ⟨g3.blk, 0, none⟩ v') ∧ w1.cell? ⟨g3.blk, 0, none⟩ = some g3.v ∧ w1.frozen? ⟨g3.blk, 0, none⟩ = false) := Lib.hid fun k v' w1 hr hg' hl => by
    have e : At w1 g3.blk 85 #[g3.v, .int .i64 g3.f.plat] := At.same (w := w3.drewN k) E.blk (hg'.block g3.blk E.blk.lt (fun e => hF3.neRowBlk hgG hgG e.symm))
    have hL := hF3.laid (t := t) hgG hgn ho3 k (v' := v') (w1 := w1) (by rw [hb3]; exact hr) ⟨hg'.os, hg'.tape, hg'.output, hg'.size, hg'.block⟩ hl
    refine ⟨Wentz.trans hT3 hFF (hL.of_same ?_), e.cell 0, e.frozen 0⟩
    show St.mk s.cap (ins (ins s.files ⟨nm.data.toList, [], 0⟩) ⟨nm.data.toList, g3.f.bytes ++ t.data.toList, g3.f.plat⟩) s.off s.starts s.due = _
    rw [ins_ins HR.out ⟨nm.data.toList, [], 0⟩ ⟨nm.data.toList, g3.f.bytes ++ t.data.toList, g3.f.plat⟩ rfl, hb3, hp3, List.nil_append]
  clear hF3 hFF hT3 hgG hg3e hgn E hb3 hp3 hr3 ho3 HZ1
  generalize g3.blk = gb at *
  generalize g3.v = gv at *
  go_wp2
  go_quiet (fail)
  go_wp2
  have d3 : (w3.drewN nq).cell? ⟨b3, 0, none⟩ = some (.string t) := q4
  have d4 : (w3.drewN nq).cell? ⟨gb, 0, none⟩ = some gv := c4
  have d6 : (w3.drewN nq).frozen? ⟨gb, 0, none⟩ = false := c6
  have R1 : (w3.drewN nq).drew.ownsRow 0 5 1 gv 0 [] := HR3.out nq
  have HZ := Lib.hid (HW.out nq)
  clear HR3 HW L3 q1 q2 q3 q4 c4 c6
  generalize w3.drewN nq = wr at *
  go_region_law (refine step_append_str rfl _ _ rfl gv 0 [] rfl R1 t rfl hbd ?_; intro v1 w1 hr1 hg1 hl1; obtain ⟨A1, c1, rfl⟩ := own_form hr1; obtain ⟨z1, z2, z3⟩ := HZ.out _ w1 hr1 hg1 hl1)
  all_goals (rw [Nat.zero_add] at z1; go_end0; exact ⟨rfl, z1⟩)

theorem appendD (b1 b2 b3 : Nat) (nm t : ByteArray) (w : World) (hn : nm.size ≤ maxLen) (h1 : Box w b1 32 (.pointer (some ⟨fb, 0, none⟩))) (h2 : Box w b2 9 (.string nm)) (h3 : Box w b3 9 (.string t)) (h : Fz q w fb mb D G dp s F) (he : errAppend s nm.data.toList t.data.toList.length = 0) :
    Calls Tryz.prog 47 #[.pointer (some ⟨b1, 0, none⟩), .pointer (some ⟨b2, 0, none⟩), .pointer (some ⟨b3, 0, none⟩)] w fun e w' => e = .returned (.tuple #[]) ∧ Wentz q F fb { s with files := doAppend s nm.data.toList t.data.toList } w w' := by
  unfold doAppend
  rcases hf : find s.files nm.data.toList with _ | x
  · exact appendNew b1 b2 b3 nm t w hn h1 h2 h3 h he hf
  · exact appendOld b1 b2 b3 nm t w hn h1 h2 h3 h he hf
end
end Go.Proofs.YtmknbakfjhjfmaaGreatDoor.fil
