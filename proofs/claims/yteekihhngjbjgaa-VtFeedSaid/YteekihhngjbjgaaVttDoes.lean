/- Terminals: the chapter's examples. -/
import Derived.Test.YteekihhngjbjgaaVttNew
import Derived.Test.YteekihhngjbjgaaGrdRefText
import Derived.Test.YteekihhngjbjgaaGrdTree
namespace Go.Proofs.Yteekihhngjbjgaa.vtt
open Go.RowKit Go.Lib Go.Proofs.Yteekihhngjbjgaa.grd
set_option linter.unusedVariables false
set_option linter.unusedSimpArgs false
set_option linter.unnecessarySimpa false
set_option linter.unusedSectionVars false

theorem inf42 : (Try.prog.info? 42).map (·.size) = some 2 := by kernel_rfl
theorem storeT {w : World} {b : Nat} {cs : Array Value} {x y : Value} (h : At w b 42 cs) (hc : cs.size = 2) (h1 : x.oneCell' = true) (h2 : y.oneCell' = true) : ∃ w', (Instr.storeAt 42 (.pointer (some ⟨b, 0, none⟩)) (.agg #[x, y])).run Try.prog w = .ok () w' ∧ At w' b 42 #[x, y] ∧ But b w w' := by
  have e : w.setCells b 0 [x, y] = { w with heap := w.heap.setIfInBounds b (.cells #[x, y] 42) } := by
    rw [setCells_block 42 _ 0 w b cs h]
    have : writeAll cs 0 [x, y] = #[x, y] := by
      apply Array.ext_getElem?
      intro j
      rw [writeAll_get _ 0 _ j (by simp; omega)]
      by_cases hj : j < 2
      · rw [if_pos (by simp; omega)]; simp
      · rw [if_neg (by simp; omega), Array.getElem?_eq_none (by omega), Array.getElem?_eq_none (by simp; omega)]
    rw [this]
  have hlt := At.lt h
  refine ⟨_, run_storeAt_mid w b 0 42 #[x, y] (fun j hj => ?_) inf42 (by simp [h1, h2]), ?_, ?_⟩
  · rw [Nat.zero_add, h.cell j]
    exact ⟨by rw [Array.getElem?_eq_getElem (by simp at hj; omega)]; rfl, At.frozen h _⟩
  · show At (w.setCells b 0 [x, y]) _ _ _
    rw [e]; unfold At; simp [hlt]
  · show But b w (w.setCells b 0 [x, y])
    rw [e]
    refine ⟨rfl, rfl, rfl, by simp, fun k hk => ?_⟩
    show (w.heap.setIfInBounds b _)[k]? = _
    rw [Array.getElem?_setIfInBounds_ne (by omega)]
section
variable {ops : Array Oper} {rest : List Oper} {op : Oper} {a : Act} {w : World} {K : Act → World → Prop} {Q : Exit → Act → World → Prop}
theorem wp_storeT (x y : Operand) (ho : op.op = .store 42 x y) (b : Nat) (x0 x1 : Int) (hx : a.eval x = .pointer (some ⟨b, 0, none⟩)) (hy : a.eval y = .agg #[.int .i64 x0, .int .i64 x1]) (cs : Array Value) (h : At w b 42 cs) (hc : cs.size = 2)
    (hk : ∀ w', At w' b 42 #[.int .i64 x0, .int .i64 x1] → But b w w' → K (a.put op.dst undef) w') : Oper.wp Try.prog op a w K Q := by
  obtain ⟨w', e, h1, h2⟩ := storeT (x := .int .i64 x0) (y := .int .i64 x1) h hc rfl rfl
  unfold Oper.wp execOp
  simp only [ho, hx, hy, Sem.run_bind, Sem.run_pure, Result.andThen_ok, e]
  exact hk _ h1 h2
end
def Xb (b : Nat) (wb W : World) : Prop := Tn b (b + 1) wb W
theorem Xb.below {b : Nat} {wb W W' : World} (h : Xb b wb W) (hB : Below W.heap.size W W') : Xb b wb W' := Tn.trans h (Tn.of_below hB (Nat.le_refl _))
theorem Xb.but {b : Nat} {wb W W' : World} (h : Xb b wb W) (hB : But b W W') : Xb b wb W' := Tn.trans h (Tn.of_but hB (Nat.le_refl _) (by omega))
def ShownSays (s : Ts) (w : World) (e : Ending) (w' : World) : Prop := ∃ A c, e = .returned (.tuple #[.slice A s.n c, .agg #[.int .i64 s.r, .int .i64 s.k]]) ∧ SRd w' w'.heap.size A (s.ls.map B) ∧ Below w.heap.size w w'
set_option maxHeartbeats 4000000 in
set_option maxRecDepth 100000 in
theorem shown_is (n m : Nat) (hz : 2 ≤ n ∧ n ≤ 60 ∧ 8 ≤ m ∧ m ≤ 132) (t : ByteArray) (ht : t.size ≤ 1000000) (w : World) :
    Calls Try.prog 27 #[.int .i64 n, .int .i64 m, .string t] w (ShownSays (feed (new n m) t.data.toList) w) := by
  have CN := Lib.hid (fun W => vnew_yes n m hz W)
  have hsz := feed_size (new n m) t.data.toList
  generalize hs : feed (new n m) t.data.toList = s at hsz ⊢
  have HS := Lib.hid hs
  have HT := Lib.hid ht
  clear hs hsz hz ht
  go_enter Try.func27, Try.ntmps27
  go_wp2_with fail
  go_at_call 11
  refine (CN.out _).mono ?_
  rintro e w1 ⟨b, rfl, hV, hB⟩
  have HA := Lib.hid ((At.new w 42 #[.int .i64 0, .int .i64 0]).keep hB (by simp))
  have HB1 : Hid (Below w.heap.size w w1) := Lib.hid (((Below.refl _ _).alloc (Nat.le_refl _) _).trans (hB.mono (by simp)))
  have CF := Lib.hid (feed_is _ _ b _ t w1 HT.out hV)
  have hb1 : w.heap.size + 1 ≤ (w.alloc (.cells #[.int .i64 0, .int .i64 0] 42)).heap.size := by simp
  generalize (w.alloc (.cells #[.int .i64 0, .int .i64 0] 42)).heap.size = lo at CF hV hb1
  clear hB CN
  go_wp2_with fail
  go_at_call 14
  refine CF.out.mono ?_
  rintro e w2 ⟨rfl, hW⟩
  rw [HS.out] at hW
  have CG := Lib.hid (grid_is _ _ b s w2 hW.1)
  have HA2 := Lib.hid (hW.2.at HA.out (by omega))
  have HB2 : Hid (Below w.heap.size w w2) := Lib.hid (HB1.out.trans (hW.2.below (by omega) HB1.out.size))
  have HK := Lib.hid hW.1.ok
  clear hW CF hV hb1 HA HB1
  go_wp2_with fail
  go_at_call 16
  refine CG.out.mono ?_
  rintro e w3 ⟨h, rfl, hO, hB⟩
  have HO := Lib.hid hO
  have HB3 : Hid (Below w.heap.size w w3) := Lib.hid (HB2.out.trans (hB.mono HB2.out.size))
  have HA3 := Lib.hid (HA2.out.keep hB HA2.out.lt)
  have HN3 := Lib.hid (At.new w3 34 #[.int .i64 0, .int .i64 0, .slice none 0 0, .int .i64 0, .int .i64 0])
  have HA2s := HA2.out.lt
  clear hO hB CG HA2 HB2
  obtain ⟨n', m', ls, r, k, esc, pm⟩ := s
  go_wp2_with (refine wpList_storeG rfl (.tmp 9) (.tmp 19) rfl w3.heap.size n' m' r k (some ⟨h, 0, none⟩) n' n' rfl rfl _ HN3.out rfl ?_; intro wb hA4 hBut)
  have HAB : Hid (At wb w.heap.size 42 #[.int .i64 0, .int .i64 0]) := Lib.hid ((HA3.out.alloc _).same (hBut.block _ (by have := HA3.out.lt; omega)))
  have HBB : Hid (Below w.heap.size w wb) := Lib.hid (HB3.out.trans ((((Below.refl w3.heap.size w3).alloc (Nat.le_refl _) _).trans (hBut.below (Nat.le_refl _))).mono HB3.out.size))
  have HG2 : w3.heap.size ≤ wb.heap.size := by have := hBut.size; simp at this; omega
  have HG : Hid (Gr wb (w.heap.size + 1) w3.heap.size (some ⟨h, 0, none⟩) n' n' ls) := Lib.hid (by
    have h1 := (HO.out.rows HK.out.few).below ((Below.refl w3.heap.size w3).alloc (Nat.le_refl _) (.cells #[.int .i64 0, .int .i64 0, .slice none 0 0, .int .i64 0, .int .i64 0] 34)) (Nat.le_refl _)
    have h2 := h1.but hBut (Or.inr (Nat.le_refl _))
    exact h2.mono (by have := HA2s; omega) (Nat.le_refl _))
  have HA4 := Lib.hid hA4
  have hlt1 := HAB.out.lt
  have hlt4 := hA4.lt
  have hne : w.heap.size < w3.heap.size := HA3.out.lt
  have T1 : Hid (∀ W, Xb w.heap.size wb W → Calls Try.prog 41 #[.agg #[.int .i64 n', .int .i64 m', .slice (some ⟨h, 0, none⟩) n' n', .int .i64 r, .int .i64 k]] W fun e w' => ∃ A' c', e = .returned (.slice A' n' c') ∧ SRd w' w'.heap.size A' (ls.map B) ∧ Below W.heap.size W w' ∧ ∀ a, A' = some a → W.heap.size < a.block) := Lib.hid fun W hX => refTextN_is n' m' r k _ n' n' ls W HK.out.few ((Tn.gr hX HG.out HG2 (Or.inr (by omega))).mono (Nat.zero_le _) (Nat.le_trans HG2 hX.size))
  have SK : Hid (∀ W, Xb w.heap.size wb W → (W.cell? ⟨w3.heap.size, 0, none⟩ = some (.int .i64 n') ∧ W.cell? ⟨w3.heap.size, 1, none⟩ = some (.int .i64 m') ∧ W.cell? ⟨w3.heap.size, 2, none⟩ = some (.slice (some ⟨h, 0, none⟩) n' n') ∧ W.cell? ⟨w3.heap.size, 3, none⟩ = some (.int .i64 r) ∧ W.cell? ⟨w3.heap.size, 4, none⟩ = some (.int .i64 k)) ∧ Xb w.heap.size wb W) := Lib.hid fun W hX => ⟨(hX.at HA4.out (by omega)).five, hX⟩
  have hX0 : Xb w.heap.size wb wb.drew := Tn.drew (Tn.refl _ _ _)
  clear hA4 hBut HA3 HO HB3 HN3
  refine wp_region_noPanic ?_
  refine wp_region_held_drew (S := (fun W => (W.cell? ⟨w3.heap.size, 0, none⟩ = some (.int .i64 n') ∧ W.cell? ⟨w3.heap.size, 1, none⟩ = some (.int .i64 m') ∧ W.cell? ⟨w3.heap.size, 2, none⟩ = some (.slice (some ⟨h, 0, none⟩) n' n') ∧ W.cell? ⟨w3.heap.size, 3, none⟩ = some (.int .i64 r) ∧ W.cell? ⟨w3.heap.size, 4, none⟩ = some (.int .i64 k)) ∧ Xb w.heap.size wb W)) (by kernel_rfl) (by (try dsimp only); exact SK.out _ hX0) (fun hHeld => ?_)
  refine held.take (i := 0) (v := .agg #[.int .i64 n', .int .i64 m', .slice (some ⟨h, 0, none⟩) n' n', .int .i64 r, .int .i64 k]) rfl (by kernel_rfl) (by kernel_rfl) (by kernel_rfl) (fun _ _ _ h => h) (Or.inl ⟨by rfl, fun W hW => by (try dsimp only at hW); go_simp⟩) (by assumption) ?_
  (try simp only [Act.put, List.setIfInBounds_toArray, List.set_cons_zero, List.set_cons_succ])
  refine held.take (i := 2) (v := .pointer (some ⟨w3.heap.size, 3, none⟩)) rfl (by kernel_rfl) (by kernel_rfl) (by kernel_rfl) (fun _ _ _ h => h) (Or.inl ⟨by rfl, fun W hW => by (try dsimp only at hW); go_simp⟩) (by assumption) ?_
  (try simp only [Act.put, List.setIfInBounds_toArray, List.set_cons_zero, List.set_cons_succ])
  refine held.take (i := 3) (v := .int .i64 r) rfl (by kernel_rfl) (by kernel_rfl) (by kernel_rfl) (fun _ _ _ h => h) (Or.inl ⟨by rfl, fun W hW => by (try dsimp only at hW); go_simp⟩) (by assumption) ?_
  (try simp only [Act.put, List.setIfInBounds_toArray, List.set_cons_zero, List.set_cons_succ])
  refine held.take (i := 4) (v := .pointer (some ⟨w3.heap.size, 4, none⟩)) rfl (by kernel_rfl) (by kernel_rfl) (by kernel_rfl) (fun _ _ _ h => h) (Or.inl ⟨by rfl, fun W hW => by (try dsimp only at hW); go_simp⟩) (by assumption) ?_
  (try simp only [Act.put, List.setIfInBounds_toArray, List.set_cons_zero, List.set_cons_succ])
  refine held.take (i := 5) (v := .int .i64 k) rfl (by kernel_rfl) (by kernel_rfl) (by kernel_rfl) (fun _ _ _ h => h) (Or.inl ⟨by rfl, fun W hW => by (try dsimp only at hW); go_simp⟩) (by assumption) ?_
  (try simp only [Act.put, List.setIfInBounds_toArray, List.set_cons_zero, List.set_cons_succ])
  refine held.take (i := 6) (v := .agg #[.int .i64 r, .int .i64 k]) rfl (by kernel_rfl) (by kernel_rfl) (by kernel_rfl) (fun _ _ _ h => h) (Or.inl ⟨by rfl, fun W hW => by (try dsimp only at hW); go_simp⟩) (by assumption) ?_
  (try simp only [Act.put, List.setIfInBounds_toArray, List.set_cons_zero, List.set_cons_succ])
  refine held.only (i := 1) (by kernel_rfl) rfl (fun K hK => ?_)
  go_simp
  go_at_call 41
  (with_reducible refine (T1.out _ hX0).mono ?_)
  rintro e v1 ⟨A', c', rfl, hT1, hB, hNew⟩
  have hX1 := hX0.below hB
  refine hK.out _ _ (by (try dsimp only); exact SK.out _ hX1) (fun hHeld => ?_)
  clear hK K
  (try simp only [Act.put, List.setIfInBounds_toArray, List.set_cons_zero, List.set_cons_succ])
  refine held.take (i := 7) (v := .slice A' n' c') rfl (by kernel_rfl) (by kernel_rfl) (by kernel_rfl) (fun _ _ _ h => h) (Or.inl ⟨by rfl, fun W hW => by (try dsimp only at hW); go_simp⟩) (by assumption) ?_
  (try simp only [Act.put, List.setIfInBounds_toArray, List.set_cons_zero, List.set_cons_succ])
  refine held.only (i := 8) (by kernel_rfl) rfl (fun K hK => ?_)
  rw [if_pos (by rfl)]
  have HT1 := Lib.hid hT1
  refine wp_storeT (.tmp 7) (.tmp 26) rfl w.heap.size r k rfl rfl _ ((HAB.out.same (w' := wb.drew) rfl).keep hB HAB.out.lt) rfl ?_
  intro v2 hA2 hU
  have hX2 := hX1.but hU
  refine hK.out _ _ (by (try dsimp only); exact SK.out _ hX2) (fun hHeld => ?_)
  clear hK K
  (try simp only [Act.put, List.setIfInBounds_toArray, List.set_cons_zero, List.set_cons_succ])
  refine wpAnyH_done (by kernel_rfl) ?_ _
  refine NoPanic.normal ?_
  have hz2 := hU.size
  have FIN : Hid (ShownSays ⟨n', m', ls, r, k, esc, pm⟩ w (.returned (.tuple #[.slice A' n' c', .agg #[.int .i64 r, .int .i64 k]])) v2) := Lib.hid ⟨A', c', rfl, fun hn => (by
      obtain ⟨bb, off, e1, e2, e3⟩ := HT1.out hn
      have h4 := hNew _ e1
      have h5 := hX0.size
      dsimp only at h4
      exact ⟨bb, off, e1, by rw [hz2]; exact e2, fun j hj => (World.cell?_of_block (hU.block bb (by omega))).trans (e3 j hj)⟩), HBB.out.trans (Tn.below hX2 (Nat.le_refl _) HBB.out.size)⟩
  obtain ⟨c0, c1⟩ : v2.cell? ⟨w.heap.size, 0, none⟩ = some (.int .i64 r) ∧ v2.cell? ⟨w.heap.size, 1, none⟩ = some (.int .i64 k) := ⟨hA2.cell 0, hA2.cell 1⟩
  go_wp2
  refine bodyPost_ret (v := .tuple #[.slice A' n' c', .agg #[.int .i64 r, .int .i64 k]]) (by simp [results, Try.results27, go_sem, c0, c1]) rfl FIN.out
theorem ex1 : (feed (new 2 8) [97, 10, 98, 10, 99]).ls = [[32, 98, 32, 32, 32, 32, 32, 32], [32, 32, 99, 32, 32, 32, 32, 32]] ∧ (feed (new 2 8) [97, 10, 98, 10, 99]).n = 2 ∧ (feed (new 2 8) [97, 10, 98, 10, 99]).r = 1 ∧ (feed (new 2 8) [97, 10, 98, 10, 99]).k = 3 := by decide +kernel
theorem shown1 (w : World) : Calls Try.prog 27 #[.int .i64 2, .int .i64 8, .string ⟨#[97, 10, 98, 10, 99]⟩] w fun e w' => ∃ A c, e = .returned (.tuple #[.slice A 2 c, .agg #[.int .i64 1, .int .i64 3]]) ∧ SRd w' w'.heap.size A [⟨#[32, 98, 32, 32, 32, 32, 32, 32]⟩, ⟨#[32, 32, 99, 32, 32, 32, 32, 32]⟩] ∧ Below w.heap.size w w' := by
  refine (shown_is 2 8 (by decide) ⟨#[97, 10, 98, 10, 99]⟩ (by decide) w).mono ?_
  rintro e w' ⟨A, c, rfl, hS, hB⟩
  have hx : (feed (new 2 8) (ByteArray.mk #[97, 10, 98, 10, 99]).data.toList) = feed (new 2 8) [97, 10, 98, 10, 99] := rfl
  rw [hx] at hS ⊢
  obtain ⟨h1, h2, h3, h4⟩ := ex1
  rw [h1] at hS
  rw [h2, h3, h4]
  exact ⟨A, c, rfl, hS, hB⟩
theorem ex2 : (feed (new 2 8) [27, 91, 50, 59, 51, 72, 120, 27, 91, 65, 27, 91, 68, 121]).ls = [[32, 32, 121, 32, 32, 32, 32, 32], [32, 32, 120, 32, 32, 32, 32, 32]] ∧ (feed (new 2 8) [27, 91, 50, 59, 51, 72, 120, 27, 91, 65, 27, 91, 68, 121]).n = 2 ∧ (feed (new 2 8) [27, 91, 50, 59, 51, 72, 120, 27, 91, 65, 27, 91, 68, 121]).r = 0 ∧ (feed (new 2 8) [27, 91, 50, 59, 51, 72, 120, 27, 91, 65, 27, 91, 68, 121]).k = 3 := by decide +kernel
theorem shown2 (w : World) : Calls Try.prog 27 #[.int .i64 2, .int .i64 8, .string ⟨#[27, 91, 50, 59, 51, 72, 120, 27, 91, 65, 27, 91, 68, 121]⟩] w fun e w' => ∃ A c, e = .returned (.tuple #[.slice A 2 c, .agg #[.int .i64 0, .int .i64 3]]) ∧ SRd w' w'.heap.size A [⟨#[32, 32, 121, 32, 32, 32, 32, 32]⟩, ⟨#[32, 32, 120, 32, 32, 32, 32, 32]⟩] ∧ Below w.heap.size w w' := by
  refine (shown_is 2 8 (by decide) ⟨#[27, 91, 50, 59, 51, 72, 120, 27, 91, 65, 27, 91, 68, 121]⟩ (by decide) w).mono ?_
  rintro e w' ⟨A, c, rfl, hS, hB⟩
  have hx : (feed (new 2 8) (ByteArray.mk #[27, 91, 50, 59, 51, 72, 120, 27, 91, 65, 27, 91, 68, 121]).data.toList) = feed (new 2 8) [27, 91, 50, 59, 51, 72, 120, 27, 91, 65, 27, 91, 68, 121] := rfl
  rw [hx] at hS ⊢
  obtain ⟨h1, h2, h3, h4⟩ := ex2
  rw [h1] at hS
  rw [h2, h3, h4]
  exact ⟨A, c, rfl, hS, hB⟩
theorem ex3 : (feed (new 2 8) [49, 50, 51, 52, 53, 54, 55, 56, 57]).ls = [[49, 50, 51, 52, 53, 54, 55, 57], [32, 32, 32, 32, 32, 32, 32, 32]] ∧ (feed (new 2 8) [49, 50, 51, 52, 53, 54, 55, 56, 57]).n = 2 ∧ (feed (new 2 8) [49, 50, 51, 52, 53, 54, 55, 56, 57]).r = 0 ∧ (feed (new 2 8) [49, 50, 51, 52, 53, 54, 55, 56, 57]).k = 7 := by decide +kernel
theorem shown3 (w : World) : Calls Try.prog 27 #[.int .i64 2, .int .i64 8, .string ⟨#[49, 50, 51, 52, 53, 54, 55, 56, 57]⟩] w fun e w' => ∃ A c, e = .returned (.tuple #[.slice A 2 c, .agg #[.int .i64 0, .int .i64 7]]) ∧ SRd w' w'.heap.size A [⟨#[49, 50, 51, 52, 53, 54, 55, 57]⟩, ⟨#[32, 32, 32, 32, 32, 32, 32, 32]⟩] ∧ Below w.heap.size w w' := by
  refine (shown_is 2 8 (by decide) ⟨#[49, 50, 51, 52, 53, 54, 55, 56, 57]⟩ (by decide) w).mono ?_
  rintro e w' ⟨A, c, rfl, hS, hB⟩
  have hx : (feed (new 2 8) (ByteArray.mk #[49, 50, 51, 52, 53, 54, 55, 56, 57]).data.toList) = feed (new 2 8) [49, 50, 51, 52, 53, 54, 55, 56, 57] := rfl
  rw [hx] at hS ⊢
  obtain ⟨h1, h2, h3, h4⟩ := ex3
  rw [h1] at hS
  rw [h2, h3, h4]
  exact ⟨A, c, rfl, hS, hB⟩
theorem ex4 : (feed (new 2 8) [97, 98, 27, 91, 68, 27, 91, 75, 27, 91, 63, 49, 74, 122]).ls = [[97, 122, 32, 32, 32, 32, 32, 32], [32, 32, 32, 32, 32, 32, 32, 32]] ∧ (feed (new 2 8) [97, 98, 27, 91, 68, 27, 91, 75, 27, 91, 63, 49, 74, 122]).n = 2 ∧ (feed (new 2 8) [97, 98, 27, 91, 68, 27, 91, 75, 27, 91, 63, 49, 74, 122]).r = 0 ∧ (feed (new 2 8) [97, 98, 27, 91, 68, 27, 91, 75, 27, 91, 63, 49, 74, 122]).k = 2 := by decide +kernel
theorem shown4 (w : World) : Calls Try.prog 27 #[.int .i64 2, .int .i64 8, .string ⟨#[97, 98, 27, 91, 68, 27, 91, 75, 27, 91, 63, 49, 74, 122]⟩] w fun e w' => ∃ A c, e = .returned (.tuple #[.slice A 2 c, .agg #[.int .i64 0, .int .i64 2]]) ∧ SRd w' w'.heap.size A [⟨#[97, 122, 32, 32, 32, 32, 32, 32]⟩, ⟨#[32, 32, 32, 32, 32, 32, 32, 32]⟩] ∧ Below w.heap.size w w' := by
  refine (shown_is 2 8 (by decide) ⟨#[97, 98, 27, 91, 68, 27, 91, 75, 27, 91, 63, 49, 74, 122]⟩ (by decide) w).mono ?_
  rintro e w' ⟨A, c, rfl, hS, hB⟩
  have hx : (feed (new 2 8) (ByteArray.mk #[97, 98, 27, 91, 68, 27, 91, 75, 27, 91, 63, 49, 74, 122]).data.toList) = feed (new 2 8) [97, 98, 27, 91, 68, 27, 91, 75, 27, 91, 63, 49, 74, 122] := rfl
  rw [hx] at hS ⊢
  obtain ⟨h1, h2, h3, h4⟩ := ex4
  rw [h1] at hS
  rw [h2, h3, h4]
  exact ⟨A, c, rfl, hS, hB⟩
end Go.Proofs.Yteekihhngjbjgaa.vtt
