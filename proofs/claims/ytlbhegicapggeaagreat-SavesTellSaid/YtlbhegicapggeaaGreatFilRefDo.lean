/- Files: the document's own system: Start, Crash, Fail, Sync, Truncate. -/
import Derived.Test.YtlbhegicapggeaaGreatFilRefFails
import Derived.Laws.AppendOwnNone
namespace Go.Proofs.YtlbhegicapggeaaGreat.fil
open Go.RowKit Go.Lib Go.Maps Go.WideMaps
set_option linter.unusedVariables false
set_option linter.unusedSimpArgs false
set_option linter.unnecessarySimpa false
set_option linter.unusedSectionVars false

section
variable {w w' : World} {rb : Nat} {s s' : St} {F F' : Nat → Prop}
theorem RWent.drewN (h : RWent F rb s w w') (n : Nat) : RWent F rb s w (w'.drewN n) := by
  obtain ⟨hT, F', h1, v, kv, z, fl, h2⟩ := h
  exact ⟨hT.drewN n, F', h1, v, kv, z, fl, h2.same (fun _ _ => rfl) (Nat.le_refl _)⟩
theorem RWent.drew (h : RWent F rb s w w') : RWent F rb s w w'.drew := by
  obtain ⟨hT, F', h1, v, kv, z, fl, h2⟩ := h
  exact ⟨hT.drew, F', h1, v, kv, z, fl, h2.same (fun _ _ => rfl) (Nat.le_refl _)⟩

theorem refStart_is (w : World) (hs : s.starts ≤ 1000000) (h : RIs w rb s F) :
    Calls Tryz.prog 43 #[.pointer (some ⟨rb, 0, none⟩)] w fun e w' => e = .returned (.int .i64 (sStart s).1) ∧ RWent F rb (sStart s).2 w w' := by
  have HS := Lib.hid h
  obtain ⟨v, kv, z, fl, h⟩ := h
  obtain ⟨c0, c1, c2, c3, c4, c5, c6⟩ := h.cells
  have f1 := h.frozen 1
  have f2 := h.frozen 2
  unfold sStart
  by_cases ho : s.off = true
  · rw [if_pos ho]
    rw [ho] at c2
    have hw1 : IntKind.i64.wrap ((s.starts : Int) + 1) = ((s.starts + 1 : Nat) : Int) := by rw [show ((s.starts : Int) + 1) = ((s.starts + 1 : Nat) : Int) by omega]; exact IntWalk.i64_in _ (by omega)
    have HZ : Hid (RWent F rb { s with off := false, starts := s.starts + 1 } w ((w.setCell ⟨rb, 2, none⟩ (.bool false)).setCell ⟨rb, 1, none⟩ (.int .i64 ((s.starts + 1 : Nat) : Int)))) := Lib.hid (by
      have hfar : ∀ b, b ≠ rb → ((w.setCell ⟨rb, 2, none⟩ (.bool false)).setCell ⟨rb, 1, none⟩ (.int .i64 ((s.starts + 1 : Nat) : Int))).heap[b]? = w.heap[b]? := fun b hb => (Below.heap_setCell _ ⟨rb, 1, none⟩ _ b hb).trans (Below.heap_setCell _ ⟨rb, 2, none⟩ _ b hb)
      refine ⟨((Turned.refl F w).setCell (p := ⟨rb, 2, none⟩) (.inl h.mine) _).setCell (p := ⟨rb, 1, none⟩) (.inl h.mine) _, F, fun b hb => .inl hb, v, kv, z, fl, h.ok.set h.ok.f false (s.starts + 1) s.due h.ok.due, At.set (At.set h.head 2 _) 1 _, own_same h.row (fun b hb => hfar b (fun e => own_ne h.row h.head (by decide) (by rw [← e]; exact hb))), h.rowF, fun _ => ?_, h.mine, fun b hb => by simpa using h.lt b hb⟩
      exact (h.due rfl).kept (fun b cs hb => hfar b (hb.ne h.head (by decide))) (fun b hb => hb))
    clear h
    go_enter Tryz.func43, Tryz.ntmps43
    go_wp2
    go_ret
    exact ⟨rfl, HZ.out⟩
  · rw [if_neg ho]
    have ho' : s.off = false := by simpa using ho
    rw [ho'] at c2
    clear h
    go_enter Tryz.func43, Tryz.ntmps43
    go_wp2
    go_ret
    exact ⟨rfl, RWent.refl HS.out⟩

theorem refCrash_went (A : Option Addr) (c lo hi : Nat) (ks : List Int) (w : World) (hkl : ks.length ≤ 9223372036854775807) (hk : LRd w lo hi A (iv ks)) (hF : ∀ b, F b → b < lo ∨ hi ≤ b) (h : RIs w rb s F) :
    Calls Tryz.prog 42 #[.pointer (some ⟨rb, 0, none⟩), .slice A ks.length c] w fun e w' => e = .returned (.int .i64 (sCrash s ks).1) ∧ RWent F rb (sCrash s ks).2 w w' := by
  have HS := Lib.hid h
  obtain ⟨v, kv, z, fl, h⟩ := h
  unfold sCrash
  by_cases ho : s.off = true
  · rw [if_pos ho]
    obtain ⟨c0, c1, c2, c3, c4, c5, c6⟩ := h.cells
    rw [ho] at c2
    clear h hk
    go_enter Tryz.func42, Tryz.ntmps42
    go_wp2
    go_ret
    exact ⟨rfl, RWent.refl HS.out⟩
  · rw [if_neg ho]
    exact refCrash_is A c lo hi ks w hkl hk (by simpa using ho) h (fun g hg => hF g (h.rowF g hg)) (hF rb h.mine)

/-! ### Fail -/
theorem fail_ref {v kv : Value} {z : Int} {fl : Bool} (h : RFz true w rb s v kv z fl F) {k : Nat} {ks : List Int} (hk9 : k ≤ 9223372036854775807) (hkl : ks.length ≤ 1000000) {w1 : World} {K : Value} (hT : Turned F w w1) (hA : At w1 rb 53 #[.int .i64 s.cap, .int .i64 s.starts, .bool s.off, .bool true, v, .int .i64 k, kv])
    (hrow : w1.ownsRow 0 77 3 v s.files.length (fv s.files)) (hK : w1.ownsRow w.heap.size 3 1 K ks.length (iv ks)) :
    RWent F rb { s with due := some (k, ks.take 32) } w (w1.setCell ⟨rb, 6, none⟩ K) := by
  have hrb := h.head.lt
  have hfar : ∀ b, b ≠ rb → (w1.setCell ⟨rb, 6, none⟩ K).heap[b]? = w1.heap[b]? := fun b hb => Below.heap_setCell w1 ⟨rb, 6, none⟩ K b hb
  refine ⟨hT.setCell (.inl h.mine) _, fun b => F b ∨ (w.heap.size ≤ b ∧ b < w1.heap.size), fun b hb => hb.imp id (fun h => h.1), v, K, (k : Int), true, ?_, At.set hA 6 K, own_same hrow (fun b hb => hfar b (fun e => own_ne hrow hA (by decide) (by have e' : b = rb := e; rw [← e']; exact hb))), fun b hb => .inl (h.rowF b hb), fun _ => ⟨rfl, rfl, ks, rfl, hkl, ?_, fun b hb => .inr (hK.lt b hb)⟩, .inl h.mine, fun b hb => ?_⟩
  · exact h.ok.set h.ok.f s.off s.starts (some (k, ks.take 32)) (fun m l hm => by
      injection hm with hm
      injection hm with h1 h2
      subst h1 h2
      exact ⟨hk9, by rw [List.length_take]; omega⟩)
  · exact own_same (own_base hK) (fun b hb => hfar b (by have := (hK.lt b hb).1; omega))
  · rcases hb with hb | hb
    · have := h.lt b hb; have := hT.size; simp; omega
    · simpa using hb.2
set_option maxHeartbeats 1000000 in
set_option maxRecDepth 100000 in
theorem refFail_is (A : Option Addr) (c lo hi : Nat) (n : Int) (ks : List Int) (w : World) (hkc : ks.length ≤ c) (hkl : ks.length ≤ 1000000) (hnm : n ≤ 9223372036854775807) (hnil : A = none → c = 0) (hK : LRd w lo hi A (iv ks)) (hF : ∀ b, F b → b < lo ∨ hi ≤ b) (h : RIs w rb s F) :
    Calls Tryz.prog 44 #[.pointer (some ⟨rb, 0, none⟩), .int .i64 n, .slice A ks.length c] w fun e w' => e = .returned (.int .i64 (sFail s n ks).1) ∧ RWent F rb (sFail s n ks).2 w w' := by
  have HS := Lib.hid h
  obtain ⟨v, kv, z, fl, h⟩ := h
  obtain ⟨c0, c1, c2, c3, c4, c5, c6⟩ := h.cells
  have f3 := h.frozen 3
  have f5 := h.frozen 5
  have f6 := h.frozen 6
  unfold sFail
  by_cases ho : s.off = true
  · rw [if_pos ho]
    rw [ho] at c2
    clear h hK
    go_enter Tryz.func44, Tryz.ntmps44
    go_wp2
    go_ret
    exact ⟨rfl, RWent.refl HS.out⟩
  · rw [if_neg ho]
    have ho' : s.off = false := by simpa using ho
    rw [ho'] at c2
    by_cases hn : n < 0
    · rw [if_pos hn]
      clear h hK
      go_enter Tryz.func44, Tryz.ntmps44
      go_wp2
      go_ret
      exact ⟨rfl, RWent.refl HS.out⟩
    · rw [if_neg hn]
      obtain ⟨k, rfl⟩ : ∃ k : Nat, n = k := ⟨n.toNat, by omega⟩
      obtain ⟨i0, hi0, hz0, hz1, hz2⟩ := info_parts info3
      have hml : (1000000 : Nat) ≤ maxLen := by unfold maxLen; omega
      have hrb := h.head.lt
      have HW : Hid (∀ w1 K m d, Below w.heap.size ((w.setCell ⟨rb, 3, none⟩ (.bool true)).setCell ⟨rb, 5, none⟩ (.int .i64 (k : Int))) w1 → w1.ownsRow w.heap.size 3 1 (.slice K m d) ks.length (iv ks) → RWent F rb { s with due := some (k, ks.take 32) } w (w1.setCell ⟨rb, 6, none⟩ (.slice K m d)) ∧ w1.cell? ⟨rb, 6, none⟩ = some kv ∧ w1.frozen? ⟨rb, 6, none⟩ = false) :=
        Lib.hid fun w1 K m d hB hr => by
          have hA0 : At ((w.setCell ⟨rb, 3, none⟩ (.bool true)).setCell ⟨rb, 5, none⟩ (.int .i64 (k : Int))) rb 53 #[.int .i64 s.cap, .int .i64 s.starts, .bool s.off, .bool true, v, .int .i64 k, kv] := At.set (At.set h.head 3 _) 5 _
          have hT0 : Turned F w ((w.setCell ⟨rb, 3, none⟩ (.bool true)).setCell ⟨rb, 5, none⟩ (.int .i64 (k : Int))) := ((Turned.refl F w).setCell (p := ⟨rb, 3, none⟩) (.inl h.mine) _).setCell (p := ⟨rb, 5, none⟩) (.inl h.mine) _
          have hB' : Below ((w.setCell ⟨rb, 3, none⟩ (.bool true)).setCell ⟨rb, 5, none⟩ (.int .i64 (k : Int))).heap.size ((w.setCell ⟨rb, 3, none⟩ (.bool true)).setCell ⟨rb, 5, none⟩ (.int .i64 (k : Int))) w1 := by simpa using hB
          have hA1 := hA0.same (hB'.block _ hA0.lt)
          have hR0 : ((w.setCell ⟨rb, 3, none⟩ (.bool true)).setCell ⟨rb, 5, none⟩ (.int .i64 (k : Int))).ownsRow 0 77 3 v s.files.length (fv s.files) := own_same h.row (fun b hb => by
            have hne : b ≠ rb := fun e => own_ne h.row h.head (by decide) (by rw [← e]; exact hb)
            exact (Below.heap_setCell _ ⟨rb, 5, none⟩ _ b hne).trans (Below.heap_setCell _ ⟨rb, 3, none⟩ _ b hne))
          have hR1 := own_same hR0 (w' := w1) (fun b hb => hB'.block b (hR0.lt b hb).2)
          exact ⟨fail_ref h (by omega) hkl (hT0.then_below hB') hA1 hR1 hr, hA1.cell 6, hA1.frozen 6⟩
      have HM0 : Hid ((((w.setCell ⟨rb, 3, none⟩ (.bool true)).setCell ⟨rb, 5, none⟩ (.int .i64 (k : Int))).alloc (.cells #[] 3)).ownsRow w.heap.size 3 1 (.slice (some ⟨w.heap.size, 0, none⟩) 0 0) 0 []) := Lib.hid (by
        have := World.ownsRow_made (base := w.heap.size) (e := 3) (size := 1) ((w.setCell ⟨rb, 3, none⟩ (.bool true)).setCell ⟨rb, 5, none⟩ (.int .i64 (k : Int))) #[] 0 (by simp) (Nat.zero_le _) rfl
        simpa using this)
      have HKL : Hid (0 < ks.length → ∃ b off, A = some ⟨b, off, none⟩ ∧ b < w.heap.size ∧ ∀ j u, (iv ks)[j]? = some u → w.cell? ⟨b, off + j, none⟩ = some u ∧ b ≠ rb) := Lib.hid (fun h0 => by
        obtain ⟨b, off, e, h1, h2, h3⟩ := hK (by rw [iv_length]; exact h0)
        obtain ⟨u, hu⟩ : ∃ u, (iv ks)[0]? = some u := ⟨(iv ks)[0]'(by rw [iv_length]; exact h0), List.getElem?_eq_getElem _⟩
        exact ⟨b, off, e, World.block_lt_of_cell? _ _ (h3 0 u hu), fun j u hj => ⟨h3 j u hj, fun e => by
          have := hF rb h.mine
          rw [← e] at this
          omega⟩⟩)
      have hB0 : Below w.heap.size ((w.setCell ⟨rb, 3, none⟩ (.bool true)).setCell ⟨rb, 5, none⟩ (.int .i64 (k : Int))) (((w.setCell ⟨rb, 3, none⟩ (.bool true)).setCell ⟨rb, 5, none⟩ (.int .i64 (k : Int))).alloc (.cells #[] 3)) := (Below.refl _ _).alloc (by simp) _
      have HB0 := Lib.hid hB0
      have hc9 : ks.length ≤ 9223372036854775807 := by omega
      clear h hK hB0 ho ho'
      simp only [Int.toNat_natCast]
      rcases A with _ | a
      · have hc0 := hnil rfl
        subst hc0
        have hk0 : ks = [] := List.eq_nil_of_length_eq_zero (by
          rcases Nat.eq_zero_or_pos ks.length with h | h
          · exact h
          · obtain ⟨b, off, e, _⟩ := HKL.out h
            cases e)
        subst hk0
        go_enter Tryz.func44, Tryz.ntmps44
        go_wp2_with (at_builtin; refine wpList_append_own_none rfl (.tmp 21) (.tmp 22) 32 rfl w.heap.size 3 i0 1 Tryz.underlying32 hi0 _ 0 [] rfl HM0.out rfl ?_; obtain ⟨hW, q6, g6⟩ := HW.out _ _ _ _ HB0.out HM0.out)
        go_ret
        exact ⟨rfl, by rw [← set_inward _ _ (by simpa using hrb)]; exact hW⟩
      · have NEW : Hid (∀ W, Below w.heap.size ((w.setCell ⟨rb, 3, none⟩ (.bool true)).setCell ⟨rb, 5, none⟩ (.int .i64 (k : Int))) W → ∀ j u, (iv ks)[j]? = some u → W.cell? (a.add j) = some u) := Lib.hid (fun W hW j u hj => by
          have hjl := (List.getElem?_eq_some_iff.1 hj).1
          rw [iv_length] at hjl
          obtain ⟨b, off, e, hb, hc⟩ := HKL.out (by omega)
          injection e with e
          subst e
          obtain ⟨h1, h2⟩ := hc j u hj
          rw [Go.WideShapes.add_plain, hW.cell (p := ⟨b, off + j, none⟩) hb]
          rw [World.cell?_setCell_other _ _ _ _ (fun e => h2 (congrArg Addr.block e).symm), World.cell?_setCell_other _ _ _ _ (fun e => h2 (congrArg Addr.block e).symm)]
          exact h1)
        have HIL : Hid ((iv ks).length = ks.length * 1) := Lib.hid (by rw [iv_length]; omega)
        have HI1 : Hid (∀ u ∈ iv ks, u.oneCell' = true) := Lib.hid (fun u hu => by obtain ⟨z, _, rfl⟩ := List.mem_map.1 hu; rfl)
        generalize hm : ks.length = m at *
        go_enter Tryz.func44, Tryz.ntmps44
        go_wp2_with (at_builtin; refine wpList_append_own _ rfl (.tmp 21) (.tmp 22) 32 rfl w.heap.size 3 i0 (.int .i64 0) 1 8 Tryz.underlying32 hi0 hz0 hz1 hz2 rfl (by decide) _ 0 [] rfl HM0.out a m c (iv ks) rfl HIL.out (NEW.out _ HB0.out) HI1.out (by omega) (by omega) (by simp) ?_; intro v3 w3 hown3 hgrow3 _; obtain ⟨A3, m3, c3, rfl⟩ := own_slice hown3; have hB3 := HB0.out.grown hgrow3 (by simp) (fun j hj => (HM0.out.lt j hj).1); rw [Nat.zero_add, List.nil_append] at hown3; obtain ⟨hW, q6, g6⟩ := HW.out w3 A3 m3 c3 hB3 hown3)
        go_ret
        exact ⟨rfl, hW⟩
end
end Go.Proofs.YtlbhegicapggeaaGreat.fil
