/- Terminals: a line's end: the cursor goes down, or all rows go up. -/
import Derived.Test.YteekihhngjbjgaaVttErase
namespace Go.Proofs.Yteekihhngjbjgaa.vtt
open Go.RowKit Go.Lib Go.Proofs.Yteekihhngjbjgaa.grd
set_option linter.unusedVariables false
set_option linter.unusedSimpArgs false
set_option linter.unnecessarySimpa false
set_option linter.unusedSectionVars false

def rot (o : Nat → Nat) (n i : Nat) : Nat := if i + 1 < n then o (i + 1) else o 0
theorem rot_lt {o : Nat → Nat} {n i : Nat} (h : i + 1 < n) : rot o n i = o (i + 1) := by unfold rot; rw [if_pos h]
theorem rot_ge {o : Nat → Nat} {n i : Nat} (h : ¬ i + 1 < n) : rot o n i = o 0 := by unfold rot; rw [if_neg h]
theorem Wr.scroll {w w' : World} {h g n m : Nat} {ls : List (List UInt8)} {hs cs hs2 : Array Value} {o : Nat → Nat} (H : Wr w h g n m ls hs cs o) (hn : 0 < n)
    (hL : At w' h 39 hs2) (hrow : ∀ i, i < n → hs2[i]? = some (.slice (some ⟨g, rot o n i, none⟩) m m)) (hA : At w' g 5 (fills cs [(o 0, m)])) : Wr w' h g n m (scroll m ls) hs2 (fills cs [(o 0, m)]) (rot o n) := by
  refine ⟨hL, hA, hrow, fun i l j c hl hc => ?_, fun i j hi hj hne => ?_, scroll_len H.len hn, fun l hl => ?_⟩
  · unfold vtt.scroll at hl
    rw [fills_get]
    by_cases h1 : i + 1 < n
    · rw [rot_lt h1]
      rw [List.getElem?_append_left (by rw [List.length_tail, H.len]; omega), List.getElem?_tail] at hl
      have hw := H.wide l (List.mem_of_getElem? hl)
      have hj := (List.getElem?_eq_some_iff.1 hc).1
      have := H.apart (i + 1) 0 h1 hn (by omega)
      have hno : inSt [(o 0, m)] (o (i + 1) + j) = false := by
        unfold inSt; simp only [List.any_cons, List.any_nil, Bool.or_false]
        rw [Bool.eq_false_iff]; intro e; simp only [Bool.and_eq_true, decide_eq_true_eq] at e; omega
      rw [if_neg (by rw [hno]; simp)]
      exact H.byte (i + 1) l j c hl hc
    · rw [rot_ge h1]
      have h2 : ls.tail.length ≤ i := by rw [List.length_tail, H.len]; omega
      rw [List.getElem?_append_right h2] at hl
      have hi0 : i - ls.tail.length = 0 := by have := (List.getElem?_eq_some_iff.1 hl).1; simp at this; simp; omega
      rw [hi0] at hl
      obtain rfl : blankRow m = l := by simpa using hl
      unfold blankRow at hc
      have hj : j < m := by have := (List.getElem?_eq_some_iff.1 hc).1; simpa using this
      rw [List.getElem?_replicate, if_pos hj, Option.some.injEq] at hc
      have hb := H.bound 0 hn (by omega)
      have hin : inSt [(o 0, m)] (o 0 + j) = true := by
        unfold inSt; simp only [List.any_cons, List.any_nil, Bool.or_false]
        simp only [Bool.and_eq_true, decide_eq_true_eq]; omega
      rw [if_pos ⟨hin, by omega⟩, ← hc]
  · unfold rot
    split <;> split
    · exact H.apart _ _ (by omega) (by omega) (by omega)
    · exact H.apart _ _ (by omega) (by omega) (by omega)
    · exact H.apart _ _ (by omega) (by omega) (by omega)
    · omega
  · unfold vtt.scroll at hl
    rcases List.mem_append.1 hl with h1 | h1
    · exact H.wide l (List.mem_of_mem_tail h1)
    · rw [List.mem_singleton.1 h1]; simp [blankRow]
/-- The first rows' slices one place ahead. -/
def up (hs : Array Value) (n : Nat) : Array Value := (((List.range (n - 1)).map fun i => hs.getD (i + 1) undef) ++ hs.toList.drop (n - 1)).toArray
theorem up_get {hs : Array Value} {n i : Nat} (hn : n ≤ hs.size) (hi : i + 1 < n) : (up hs n)[i]? = hs[i + 1]? := by
  unfold up
  rw [List.getElem?_toArray, List.getElem?_append_left (by simp; omega), List.getElem?_map, List.getElem?_range (by omega), Option.map_some, Array.getD_eq_getD_getElem?, Array.getElem?_eq_getElem (by omega)]
  rfl
theorem up_size {hs : Array Value} {n : Nat} (hn : n ≤ hs.size) : (up hs n).size = hs.size := by
  unfold up; simp; omega
theorem heap_setRow (w : World) (g : Nat) (cs cur : Array Value) (t : TypeId) (hA : At w g t cur) : At (w.setRow g cs) g t cs := by
  unfold At at hA ⊢
  simp [World.setRow, Array.getElem?_modify, hA]
theorem but_setRow (w : World) (g : Nat) (cs : Array Value) : But g w (w.setRow g cs) :=
  ⟨rfl, rfl, rfl, by simp [World.setRow], fun k hk => setRow_other w g k cs hk⟩
section
variable {ops : Array Oper} {rest : List Oper} {op : Oper} {a : Act} {w : World} {Q : Exit → Act → World → Prop}
/-- copy(rows, rows[1:]). -/
theorem wpList_up (hgd : op.guard = none) (x y : Operand) (ho : op.op = .call { callee := .builtin .copy, args := #[x, y], argTypes := #[32, 32] })
    (h n d : Nat) (hx : a.eval x = .slice (some ⟨h, 0, none⟩) n n) (hy : a.eval y = .slice (some ⟨h, 1, none⟩) (n - 1) d) (hs : Array Value) (hA : At w h 39 hs) (hn : n ≤ hs.size) (h1 : ∀ i, i < n → ∀ v, hs[i]? = some v → v.oneCell' = true)
    (hk : ∀ w', At w' h 39 (up hs n) → But h w w' → wpList Try.prog ops Q rest (a.put op.dst (goInt ((n - 1 : Nat) : Int))) w') : wpList Try.prog ops Q (op :: rest) a w := by
  have hl : ((List.range (n - 1)).map fun i => hs.getD (i + 1) undef).length = n - 1 := by simp
  have hget : ∀ (j : Nat) v, ((List.range (n - 1)).map fun i => hs.getD (i + 1) undef)[j]? = some v → j < n - 1 ∧ hs[j + 1]? = some v := by
    intro j v hj
    have hj1 : j < n - 1 := by have := (List.getElem?_eq_some_iff.1 hj).1; simpa using this
    rw [List.getElem?_map, List.getElem?_range hj1, Option.map_some, Option.some.injEq, Array.getD_eq_getD_getElem?, Array.getElem?_eq_getElem (by omega)] at hj
    exact ⟨hj1, by rw [Array.getElem?_eq_getElem (by omega), ← hj]; rfl⟩
  refine wpList_copy_own hgd x y _ _ ho 39 Try.underlying32 (by kernel_rfl) h 0 n n ⟨h, 1, none⟩ (n - 1) d hx hy hs 39 hA ((List.range (n - 1)).map fun i => hs.getD (i + 1) undef) (by rw [hl]; exact (Nat.min_eq_left (by omega)).symm) (fun j v hj => ?_) (by rw [hl]; omega) (fun v hv => ?_) ?_
  · obtain ⟨h2, h3⟩ := hget j v hj
    rw [Go.WideShapes.add_plain, hA.cell, Nat.add_comm 1 j, h3]
  · obtain ⟨j, hj⟩ := List.mem_iff_getElem?.1 hv
    obtain ⟨h2, h3⟩ := hget j v hj
    exact h1 (j + 1) (by omega) v h3
  · rw [hl]
    refine hk _ ?_ (but_setRow _ _ _)
    have := heap_setRow w h (hs.toList.take 0 ++ (((List.range (n - 1)).map fun i => hs.getD (i + 1) undef) ++ hs.toList.drop (0 + (n - 1)))).toArray hs 39 hA
    unfold up
    simpa using this
end
theorem Vb.went {w w' : World} {lo hi b h g : Nat} {s s' : Ts} {hs cs : Array Value} {o : Nat → Nat} (H : Vb w lo hi b h g s hs cs o) (hB : But b w w') (hA : At w' b 46 (vc s' h)) (ok : Ok s') (e1 : s'.n = s.n) (e2 : s'.m = s.m) (e3 : s'.ls = s.ls) : Went lo hi b s' w w' :=
  ⟨(H.turn hB hA ok e1 e2 e3).vt, Tn.of_but hB H.bb.1 H.bb.2⟩
set_option maxHeartbeats 4000000 in
set_option maxRecDepth 100000 in
theorem down_is (lo hi b : Nat) (s : Ts) (w : World) (H : Vt w lo hi b s) :
    Calls Try.prog 39 #[.pointer (some ⟨b, 0, none⟩)] w fun e w' => e = .returned (.tuple #[]) ∧ Went lo hi b (down s) w w' := by
  obtain ⟨h, g, hs, cs, o, H⟩ := H
  obtain ⟨n, m, ls, r, k, esc, pm⟩ := s
  have HH := Lib.hid H
  obtain ⟨a0, _, a2, a3, _⟩ := H.ten
  have f3 := H.frozen 3
  have hc := H.ok.cur
  have hz := H.ok.size
  dsimp only at hc hz a0 a2 a3
  obtain ⟨hr, hk⟩ := hc
  have hwn : IntKind.i64.wrap ((n : Int) - 1) = (n : Int) - 1 := by rw [IntKind.wrap_i64]; omega
  by_cases hl : r + 1 < n
  · have q : decide ((r : Int) < (n : Int) - 1) = true := by simp; omega
    have FIN : Hid (∀ p, Went lo hi b (down ⟨n, m, ls, r, k, esc, pm⟩) w ((w.drewN p).setCell ⟨b, 3, none⟩ (.int .i64 ((r : Int) + 1)))) := Lib.hid fun p => by
      have e : down ⟨n, m, ls, r, k, esc, pm⟩ = ⟨n, m, ls, r + 1, k, esc, pm⟩ := by unfold down; rw [if_pos hl]
      rw [e]
      refine HH.out.went (((But.refl b w).drewN p).setCell 3 _) ?_ (HH.out.ok.cursor (r := r + 1) (k := k) hl hk) rfl rfl rfl
      exact ((HH.out.same (w' := w.drewN p) rfl).blk.set 3 (.int .i64 ((r : Int) + 1)))
    clear H
    go_enter Try.func39, Try.ntmps39
    go_wp2_with fail
    go_quiet (fail)
    go_wp2
    refine bodyPost_ret (results_none rfl _ _ _) rfl ?_
    exact ⟨rfl, FIN.out _⟩
  · obtain ⟨N, rfl⟩ : ∃ N, n = N + 1 := ⟨n - 1, by omega⟩
    have q : decide ((r : Int) < (N : Int)) = false := by simp; omega
    have hz0 : w.heap.size = w.heap.size := rfl
    clear hwn
    have hwn : IntKind.i64.wrap ((N : Int) + 1 - 1) = (N : Int) := by rw [IntKind.wrap_i64]; omega
    have hwN : IntKind.i64.wrap (N : Int) = (N : Int) := by rw [IntKind.wrap_i64]; omega
    have a0 : w.cell? ⟨b, 0, none⟩ = some (.int .i64 ((N : Int) + 1)) := a0
    have l0 : w.cell? ⟨h, 0, none⟩ = some (.slice (some ⟨g, o 0, none⟩) m m) := by rw [H.wr.list.cell, H.wr.row 0 (by dsimp only; omega)]
    have hT : ∀ W, (Instr.slice 32 (.slice (some ⟨h, 0, none⟩) (N + 1) (N + 1)) (some (.int .i64 1)) none none).run Try.prog W = .ok (.slice (some ⟨h, 1, none⟩) N N) W := fun W => by
      have := tail_rows (some ⟨h, 0, none⟩) (N + 1) (N + 1) 1 N (by omega) W
      rw [show tailA (some ⟨h, 0, none⟩) (N + 1) 1 = some ⟨h, 1, none⟩ by unfold tailA; rw [if_neg (by omega)]; simp [Addr.add]] at this
      exact this
    have HHS : Hid (N + 1 ≤ hs.size) := Lib.hid (by
      have := (Array.getElem?_eq_some_iff.1 (H.wr.row N (by dsimp only; omega))).1
      omega)
    have HN := Lib.hid (show 1 ≤ N ∧ N ≤ 59 by omega)
    clear H hz0
    go_enter Try.func39, Try.ntmps39
    go_wp2_with fail
    go_quiet (fail)
    go_wp2_with fail
    have HQ := Lib.hid (HH.out.same (w' := w.drewN nq) rfl)
    have HB := Lib.hid ((But.refl b w).drewN nq)
    clear a0 a2 a3 f3 l0
    generalize w.drewN nq = w2 at HQ HB ⊢
    obtain ⟨a0, _, a2, _⟩ := HQ.out.ten
    dsimp only at a0 a2
    have a0 : w2.cell? ⟨b, 0, none⟩ = some (.int .i64 ((N : Int) + 1)) := a0
    go_still_tail 9, (by kernel_rfl)
    change wpList _ _ _ _ _ w2.drew
    go_wp2_with (refine wpList_up rfl (.tmp 33) (.tmp 38) rfl h (N + 1) N rfl rfl hs (HQ.out.same (w' := w2.drew) rfl).wr.list HHS.out (fun i hi v hv => by rw [HQ.out.wr.row i hi] at hv; injection hv with hv; rw [← hv]; rfl) ?_; intro w3 hA3 hB3)
    have HA3 := Lib.hid hA3
    have HB3 := Lib.hid hB3
    clear hA3 hB3 a0 a2
    have hg3 : g < w3.heap.size := by have := HQ.out.wr.data.lt; rw [HB3.out.size]; exact this
    have HG4 : Hid (At (w3.alloc (.cells #[.slice (some ⟨g, o 0, none⟩) m m] 39)) g 5 cs) := Lib.hid (((HQ.out.same (w' := w2.drew) rfl).wr.data.same (HB3.out.block g (Ne.symm HQ.out.hg))).alloc _)
    go_at_call 47
    have hbd := HQ.out.wr.bound 0 (by dsimp only; omega) (by dsimp only; omega)
    dsimp only at hbd
    refine (wipe_is _ 1 1 g [(o 0, m)] cs _ rfl (by omega) HG4.out (sts_one hg3 39 _ _ _ hbd (by omega))).mono ?_
    rintro e w5 ⟨rfl, hD⟩
    have HD := Lib.hid hD
    clear hD hg3 hbd
    have HA5 : Hid (At w5 h 39 (up hs (N + 1))) := Lib.hid ((HA3.out.alloc _).same (HD.out.2.block h HQ.out.hg))
    have HV5 : Hid (At w5 b 46 (vc ⟨N + 1, m, ls, r, k, esc, pm⟩ h)) := Lib.hid (((HQ.out.blk.same (w' := w3) (HB3.out.block b HQ.out.bh)).alloc _).same (HD.out.2.block b HQ.out.bg))
    have HT5 : Hid (Tn lo hi w w5) := Lib.hid ((Tn.of_but HB.out HQ.out.bb.1 HQ.out.bb.2).trans ((Tn.drew (Tn.refl lo hi w2)).trans (((Tn.of_but HB3.out HQ.out.hh.1 HQ.out.hh.2)).alloc _ |>.trans (Tn.of_but HD.out.2 HQ.out.gg.1 HQ.out.gg.2))))
    obtain ⟨a0, _, a2, _⟩ := At.ten HV5.out
    dsimp only at a0 a2
    have a0 : w5.cell? ⟨b, 0, none⟩ = some (.int .i64 ((N : Int) + 1)) := a0
    obtain ⟨old, ho⟩ : ∃ v, (up hs (N + 1))[N]? = some v := ⟨_, Array.getElem?_eq_getElem (by rw [up_size HHS.out]; have := HHS.out; omega)⟩
    have l5 : w5.cell? ⟨h, N, none⟩ = some old := (HA5.out.cell N).trans ho
    have f5 := HA5.out.frozen N
    have HO := Lib.hid ho
    clear ho
    have hNn := HN.out
    have FIN : Hid (Went lo hi b (down ⟨N + 1, m, ls, r, k, esc, pm⟩) w (w5.drew.setCell ⟨h, N, none⟩ (.slice (some ⟨g, o 0, none⟩) m m))) := Lib.hid (by
      have e : down ⟨N + 1, m, ls, r, k, esc, pm⟩ = ⟨N + 1, m, scroll m ls, r, k, esc, pm⟩ := by unfold down; rw [if_neg (by dsimp only; omega)]
      have hsz : N < (up hs (N + 1)).size := (Array.getElem?_eq_some_iff.1 HO.out).1
      have HA6 := HA5.out.set N (.slice (some ⟨g, o 0, none⟩) m m)
      have HT6 : Tn lo hi w5 (w5.drew.setCell ⟨h, N, none⟩ (.slice (some ⟨g, o 0, none⟩) m m)) := Tn.of_but (((But.refl h w5).drew).setCell N _) HQ.out.hh.1 HQ.out.hh.2
      have hsz5 := HT5.out.size
      have hsz0 := HH.out.sz
      rw [e]
      refine ⟨⟨h, g, _, _, rot o (N + 1), (by have := HH.out.ok.down; rw [e] at this; exact this), HV5.out.far (p := ⟨h, N, none⟩) HQ.out.bh _, HQ.out.wr.scroll (by dsimp only; omega) HA6 (fun i hi => ?_) (HD.out.1.far (p := ⟨h, N, none⟩) (Ne.symm HQ.out.hg) _), HQ.out.bb, HQ.out.hh, HQ.out.gg, HQ.out.bh, HQ.out.bg, HQ.out.hg, by have := HT6.size; omega⟩, HT5.out.trans HT6⟩
      dsimp only at hi ⊢
      rw [Array.getElem?_setIfInBounds]
      by_cases hiN : N = i
      · subst hiN
        rw [if_pos rfl, if_pos hsz, rot_ge (by omega)]
      · rw [if_neg hiN, rot_lt (by omega), up_get HHS.out (by omega)]
        exact HQ.out.wr.row (i + 1) (by dsimp only; omega))
    clear HN
    go_wp2_with fail
    go_still_tail 10, (by kernel_rfl)
    change wpList _ _ _ _ _ w5.drew
    go_wp2
    go_end0
    exact ⟨rfl, FIN.out⟩
end Go.Proofs.Yteekihhngjbjgaa.vtt
