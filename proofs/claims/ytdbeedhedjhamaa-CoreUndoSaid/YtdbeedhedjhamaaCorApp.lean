/- Core: append to a row of one's own: where the longer row lies. -/
import Derived.Test.YtdbeedhedjhamaaCorBegin
import Derived.Test.YtdbeedhedjhamaaMrkKit
/-! Core: Mark. -/
namespace Go.Proofs.Ytdbeedhedjhamaa.cor
open Go.RowKit Go.Lib pce sps mrk
set_option linter.unusedVariables false
set_option linter.unusedSimpArgs false
set_option linter.unnecessarySimpa false
set_option linter.unusedSectionVars false

section
variable {n cb : Nat} {w0 w : World} {G : Nat → Prop} {s : S}
theorem setM_ints {f : Nat → Int} {b : Nat} {l n : Int} (hf : Ints f) (hk : setE b l n = 0) (hn : n ≤ 9223372036854775807) : Ints (setM f b l n) := by
  unfold setE at hk
  by_cases h1 : 97 ≤ b ∧ b ≤ 122
  · rw [if_neg (by simpa using h1)] at hk
    by_cases h2 : l < 1 ∨ n < l
    · rw [if_pos h2] at hk; exact absurd hk (by decide)
    · have e : setM f b l n = upd f (b - 97) l := by unfold setM; rw [if_neg (by simpa using h1), if_neg h2]
      rw [e]
      intro i hi
      unfold upd
      split
      · omega
      · exact hf i hi
  · rw [if_pos h1] at hk; exact absurd hk (by decide)
set_option maxHeartbeats 4000000 in
set_option maxRecDepth 100000 in
theorem mark_is (h : Cr n w0 cb s G w) (b : Nat) (hb : b < 256) (l : Int) (hl1 : -9223372036854775808 ≤ l) (hl2 : l ≤ 9223372036854775807) :
    Calls Try.prog 17 #[.pointer (some ⟨cb, 0, none⟩), .int .u8 b, .int .i64 l] w (GoSays n w0 w cb s G l) := by
  have KN := Lib.hid (isNone_is h)
  obtain ⟨v, bk, gn, rb, last, hi⟩ := h.is
  have hG := fun b (hb : G b) => (h.g b hb).2
  obtain ⟨tb, rfl, _⟩ := hi.cells
  obtain ⟨ps, ht, hp⟩ := hi.mo.tab
  obtain ⟨N, hN⟩ : ∃ N, s.m.L.length = N := ⟨_, rfl⟩
  have hN2 : N ≤ 2000 := by rw [← hN]; exact hi.mo.fine.1
  obtain ⟨f', hf'⟩ : ∃ f', setM s.m.f b l N = f' := ⟨_, rfl⟩
  obtain ⟨k, hk⟩ : ∃ k, setE b l N = k := ⟨_, rfl⟩
  have KC : Hid (∀ W, Below w.heap.size w W → W.cell? ⟨cb, 0, none⟩ = some (.pointer (some ⟨tb, 0, none⟩))) := Lib.hid fun W hW => (co_cells (hi.move hW hG).at_).1
  have KA : Hid (∀ W, Below w.heap.size w W → W.rangeAt cb 2 (arrL s.m.f)) := Lib.hid fun W hW => co_marks (hi.move hW hG).at_
  have KL : Hid (∀ W, Below w.heap.size w W → Calls Try.prog 29 #[.pointer (some ⟨tb, 0, none⟩)] W fun e w' => e = .returned (.int .i64 (N : Nat)) ∧ W = w') := Lib.hid fun W hW => by
    have := len_is W _ _ ps (ht.below hW)
    rw [hp, hN] at this
    exact this
  have KS := Lib.hid (fun W => set_is s.m.f b l (N : Nat) W f' k hf' hk hb hl1 hl2 (by omega) (by omega))
  have KB : Hid (Below w.heap.size w w.drew) := Lib.hid (below_drew (Below.refl _ _))
  have KT : Hid (∀ w4, Below w.drew.heap.size w.drew w4 → Below w.heap.size w w4) := Lib.hid fun w4 hB => KB.out.trans (hB.mono (Nat.le_refl _))
  have KU : Hid (∀ w4 w5, Below w.heap.size w w4 → Below w4.heap.size w4 w5 → Below w.heap.size w w5) := Lib.hid fun w4 w5 h1 h2 => h1.trans (h2.mono h1.size)
  have KV : Hid (∀ w4 w5 w6, Below w.heap.size w w4 → Below w.heap.size w w5 → Only w4.heap.size w5 w6 → Below w.heap.size w w6) := Lib.hid fun w4 w5 w6 h1 h2 h3 => h2.trans (h3.below h1.size)
  have HX : Hid (∀ W k, Below w.heap.size w W → GoSays n w0 w cb s G l (.returned (.int .i64 k)) W) := Lib.hid fun W k hW => ⟨k, s, rfl, h.move hW, .of_below hW, rfl⟩
  have HA : Hid (∀ W, Below w.heap.size w W → At W cb 57 (coL (.pointer (some ⟨tb, 0, none⟩)) s.m bk gn (.pointer (some ⟨rb, 0, none⟩)) last s.dirty).toArray) := Lib.hid fun W hW => (hi.move hW hG).at_
  have HE : Hid (k = 0 → ∀ W W', Below w.heap.size w W → Only cb W W' → At W' cb 57 (coL (.pointer (some ⟨tb, 0, none⟩)) ⟨s.m.L, s.m.c, f'⟩ bk gn (.pointer (some ⟨rb, 0, none⟩)) last s.dirty).toArray → GoSays n w0 w cb s G l (.returned (.int .i64 0)) W') := Lib.hid fun hk0 W W' hW hO hA => by
    have hi1 := hi.move hW hG
    have hi2 := hi1.turn hO hA (⟨hi1.mo.tab, hi1.mo.c0, hi1.mo.c1, by rw [← hf']; exact setM_ints hi1.mo.ints (by rw [hk, hk0]) (by omega)⟩ : Mo W G _ ⟨s.m.L, s.m.c, f'⟩) hi1.back hi1.begun
    have hW2 := (Went.of_below hW).trans (.of_only hO hi.gc)
    exact ⟨0, _, rfl, h.turned hW2 (fun b hb => by rw [hO.size]; exact Nat.lt_of_lt_of_le (hG b hb) hW.size) hi2, hW2, rfl⟩
  clear ht hp hi h hN hf' hk hG hb hl1 hl2
  go_enter Try.func17, Try.ntmps17
  go_wp2_with (first
    | (go_at_call 28; (with_reducible refine KN.out.mono ?_); rintro e w1 ⟨rfl, rfl⟩)
    | fail "NONE")
  refine wp_region_noPanic ?_
  refine wp_region_held_drew (S := fun W => Below w.heap.size w W) (by kernel_rfl) (by (try dsimp only); first | assumption | exact KB.out) (fun hHeld => ?_)
  refine held.take (i := 0) (v := .pointer (some ⟨cb, 0, none⟩)) rfl (by kernel_rfl) (by kernel_rfl) (by kernel_rfl) (fun _ _ _ h => h) (Or.inl ⟨by rfl, fun W hW => by (try dsimp only at hW); go_simp⟩) (by assumption) ?_
  (try simp only [Act.put, List.setIfInBounds_toArray, List.set_cons_zero, List.set_cons_succ])
  refine held.take (i := 1) (v := .pointer (some ⟨cb, 0, none⟩)) rfl (by kernel_rfl) (by kernel_rfl) (by kernel_rfl) (fun _ _ _ h => h) (Or.inl ⟨by rfl, fun W hW => by (try dsimp only at hW); go_simp⟩) (by assumption) ?_
  (try simp only [Act.put, List.setIfInBounds_toArray, List.set_cons_zero, List.set_cons_succ])
  refine held.take (i := 2) (v := .pointer (some ⟨cb, 0, none⟩)) rfl (by kernel_rfl) (by kernel_rfl) (by kernel_rfl) (fun _ _ _ h => h) (Or.inl ⟨by rfl, fun W hW => by (try dsimp only at hW); go_simp⟩) (by assumption) ?_
  (try simp only [Act.put, List.setIfInBounds_toArray, List.set_cons_zero, List.set_cons_succ])
  refine held.take (i := 3) (v := .pointer (some ⟨cb, 2, none⟩)) rfl (by kernel_rfl) (by kernel_rfl) (by kernel_rfl) (fun _ _ _ h => h) (Or.inl ⟨by rfl, fun W hW => by (try dsimp only at hW); go_simp⟩) (by assumption) ?_
  (try simp only [Act.put, List.setIfInBounds_toArray, List.set_cons_zero, List.set_cons_succ])
  refine held.take (i := 4) (v := .agg (arr s.m.f)) rfl (by kernel_rfl) (by kernel_rfl) (by kernel_rfl) (fun _ _ _ h => h) (yields_loadV (by rfl) _ _ rfl undA mrk.inf cb 2 rfl (arrL s.m.f) (arrL_len _) (fun W hW => KA.out W hW)) (by assumption) ?_
  (try simp only [Act.put, List.setIfInBounds_toArray, List.set_cons_zero, List.set_cons_succ])
  refine held.take (i := 5) (v := .int .u8 b) rfl (by kernel_rfl) (by kernel_rfl) (by kernel_rfl) (fun _ _ _ h => h) (Or.inl ⟨by rfl, fun W hW => by (try dsimp only at hW); go_simp⟩) (by assumption) ?_
  (try simp only [Act.put, List.setIfInBounds_toArray, List.set_cons_zero, List.set_cons_succ])
  refine held.take (i := 6) (v := .int .i64 l) rfl (by kernel_rfl) (by kernel_rfl) (by kernel_rfl) (fun _ _ _ h => h) (Or.inl ⟨by rfl, fun W hW => by (try dsimp only at hW); go_simp⟩) (by assumption) ?_
  (try simp only [Act.put, List.setIfInBounds_toArray, List.set_cons_zero, List.set_cons_succ])
  refine held.take (i := 7) (v := .pointer (some ⟨cb, 0, none⟩)) rfl (by kernel_rfl) (by kernel_rfl) (by kernel_rfl) (fun _ _ _ h => h) (Or.inl ⟨by rfl, fun W hW => by (try dsimp only at hW); go_simp⟩) (by assumption) ?_
  (try simp only [Act.put, List.setIfInBounds_toArray, List.set_cons_zero, List.set_cons_succ])
  refine held.take (i := 8) (v := .pointer (some ⟨cb, 0, none⟩)) rfl (by kernel_rfl) (by kernel_rfl) (by kernel_rfl) (fun _ _ _ h => h) (Or.inl ⟨by rfl, fun W hW => by (try dsimp only at hW); go_simp⟩) (by assumption) ?_
  (try simp only [Act.put, List.setIfInBounds_toArray, List.set_cons_zero, List.set_cons_succ])
  refine held.take (i := 9) (v := .pointer (some ⟨cb, 0, none⟩)) rfl (by kernel_rfl) (by kernel_rfl) (by kernel_rfl) (fun _ _ _ h => h) (Or.inl ⟨by rfl, fun W hW => by (try dsimp only at hW); go_simp⟩) (by assumption) ?_
  (try simp only [Act.put, List.setIfInBounds_toArray, List.set_cons_zero, List.set_cons_succ])
  refine held.take (i := 10) (v := .pointer (some ⟨cb, 0, none⟩)) rfl (by kernel_rfl) (by kernel_rfl) (by kernel_rfl) (fun _ _ _ h => h) (Or.inl ⟨by rfl, fun W hW => by (try dsimp only at hW); go_simp⟩) (by assumption) ?_
  (try simp only [Act.put, List.setIfInBounds_toArray, List.set_cons_zero, List.set_cons_succ])
  refine held.take (i := 11) (v := .pointer (some ⟨tb, 0, none⟩)) rfl (by kernel_rfl) (by kernel_rfl) (by kernel_rfl) (fun _ _ _ h => h) (Or.inl ⟨by rfl, fun W hW => by (try dsimp only at hW); have c0 := KC.out W hW; go_simp⟩) (by assumption) ?_
  (try simp only [Act.put, List.setIfInBounds_toArray, List.set_cons_zero, List.set_cons_succ])
  refine held_two (i := 12) (j := 17) (by kernel_rfl) rfl rfl (fun K hK => ?_) (fun K hK => ?_)
  · skip
    go_simp
    go_at_call 29
    (with_reducible refine (KL.out _ hHeld).mono ?_)
    rintro e wl ⟨rfl, rfl⟩
    refine hK.out _ _ (by (try dsimp only); first | assumption | exact KB.out) (fun hHeld => ?_)
    clear hK K
    (try simp only [Act.put, List.setIfInBounds_toArray, List.set_cons_zero, List.set_cons_succ])
    refine held_two (i := 13) (j := 17) (by kernel_rfl) rfl rfl (fun K hK => ?_) (fun K hK => ?_)
    · skip
      go_simp
      go_at_call 33
      (with_reducible refine (KS.out _).mono ?_)
      rintro e w4 ⟨rfl, hB4'⟩
      have hB4 := KU.out _ w4 hHeld hB4'
      refine hK.out _ _ (by (try dsimp only); first | assumption | exact KB.out) (fun hHeld => ?_)
      clear hK K
      (try simp only [Act.put, List.setIfInBounds_toArray, List.set_cons_zero, List.set_cons_succ])
      refine held.take (i := 14) (v := .tuple #[.agg (arr f'), .int .i64 k]) rfl (by kernel_rfl) (by kernel_rfl) (by kernel_rfl) (fun _ _ _ h => h) (Or.inl ⟨by rfl, fun W hW => by (try dsimp only at hW); go_simp⟩) (by assumption) ?_
      (try simp only [Act.put, List.setIfInBounds_toArray, List.set_cons_zero, List.set_cons_succ])
      refine held.take (i := 15) (v := .agg (arr f')) rfl (by kernel_rfl) (by kernel_rfl) (by kernel_rfl) (fun _ _ _ h => h) (Or.inl ⟨by rfl, fun W hW => by (try dsimp only at hW); go_simp⟩) (by assumption) ?_
      (try simp only [Act.put, List.setIfInBounds_toArray, List.set_cons_zero, List.set_cons_succ])
      refine held.take (i := 16) (v := .int .i64 k) rfl (by kernel_rfl) (by kernel_rfl) (by kernel_rfl) (fun _ _ _ h => h) (Or.inl ⟨by rfl, fun W hW => by (try dsimp only at hW); go_simp⟩) (by assumption) ?_
      (try simp only [Act.put, List.setIfInBounds_toArray, List.set_cons_zero, List.set_cons_succ])
      refine held.only (i := 17) (by kernel_rfl) rfl (fun K hK => ?_)
      refine step_of rfl (wp_allocV 36 rfl (arr noM) (mrk.zer _) ?_)
      obtain ⟨w5, hw5⟩ : ∃ w5, World.alloc w4 (.cells (arr noM) 36) = w5 := ⟨_, rfl⟩
      rw [hw5]
      have hB45 : Below (World.heap w4).size w4 w5 := hw5 ▸ (Below.refl _ _).alloc (Nat.le_refl _) _
      have hA5 : Arr w5 (World.heap w4).size noM := hw5 ▸ At.new _ _ _
      have hl5 : w.heap.size ≤ (World.heap w4).size := (Below.size hHeld)
      have hB5 := KU.out _ w5 hHeld hB45
      clear hw5
      refine hK.out _ _ (by (try dsimp only); first | assumption | exact KB.out) (fun hHeld => ?_)
      clear hK K
      (try simp only [Act.put, List.setIfInBounds_toArray, List.set_cons_zero, List.set_cons_succ])
      refine held.only (i := 18) (by kernel_rfl) rfl (fun K hK => ?_)
      refine step_of rfl (mrk.wp_storeA (.tmp 7) (.tmp 26) rfl _ f' rfl rfl noM hA5 ?_)
      intro w6 hA6 hO6
      have hB6 := hHeld.trans (hO6.below hl5)
      refine hK.out _ _ (by (try dsimp only); first | assumption | exact KB.out) (fun hHeld => ?_)
      clear hK K
      (try simp only [Act.put, List.setIfInBounds_toArray, List.set_cons_zero, List.set_cons_succ])
      refine held.take (i := 19) (v := .int .i64 k) rfl (by kernel_rfl) (by kernel_rfl) (by kernel_rfl) (fun _ _ _ h => h) (Or.inl ⟨by rfl, fun W hW => by (try dsimp only at hW); go_simp⟩) (by assumption) ?_
      (try simp only [Act.put, List.setIfInBounds_toArray, List.set_cons_zero, List.set_cons_succ])
      refine wpAnyH_done (by kernel_rfl) ?_ _
      refine NoPanic.normal ?_
      by_cases hk0 : k = 0
      · subst hk0
        have HE2 := Lib.hid (HE.out rfl)
        clear HE
        go_wp2_with (first
          | (refine wpList_loadA rfl _ rfl _ rfl _ hA6 ?_)
          | (refine wpList_storeCm rfl (.tmp 35) (.tmp 32) rfl (HA.out _ hB6) f' rfl rfl ?_; intro w7 hA7 hO7)
          | fail "NONE")
        go_ret
        exact HE2.out _ _ hB6 hO7 hA7
      · have hkn : (k != 0) = true := by simpa using hk0
        clear hk0
        go_wp2
        go_ret
        exact HX.out _ _ hB6
    · skip
      refine step_of rfl (wp_allocV 36 rfl (arr noM) (mrk.zer _) ?_)
      obtain ⟨w5, hw5⟩ : ∃ w5, World.alloc w.drew (.cells (arr noM) 36) = w5 := ⟨_, rfl⟩
      rw [hw5]
      have hB45 : Below (World.heap w.drew).size w.drew w5 := hw5 ▸ (Below.refl _ _).alloc (Nat.le_refl _) _
      have hA5 : Arr w5 (World.heap w.drew).size noM := hw5 ▸ At.new _ _ _
      have hl5 : w.heap.size ≤ (World.heap w.drew).size := (Below.size hHeld)
      have hB5 := KU.out _ w5 hHeld hB45
      clear hw5
      refine hK.out _ _ (by (try dsimp only); first | assumption | exact KB.out) (fun hHeld => ?_)
      clear hK K
      (try simp only [Act.put, List.setIfInBounds_toArray, List.set_cons_zero, List.set_cons_succ])
      refine held.only (i := 13) (by kernel_rfl) rfl (fun K hK => ?_)
      go_simp
      go_at_call 33
      (with_reducible refine (KS.out _).mono ?_)
      rintro e w4 ⟨rfl, hB4'⟩
      have hB4 := KU.out _ w4 hHeld hB4'
      have hA5 := hA5.all hB4'
      refine hK.out _ _ (by (try dsimp only); first | assumption | exact KB.out) (fun hHeld => ?_)
      clear hK K
      (try simp only [Act.put, List.setIfInBounds_toArray, List.set_cons_zero, List.set_cons_succ])
      refine held.take (i := 14) (v := .tuple #[.agg (arr f'), .int .i64 k]) rfl (by kernel_rfl) (by kernel_rfl) (by kernel_rfl) (fun _ _ _ h => h) (Or.inl ⟨by rfl, fun W hW => by (try dsimp only at hW); go_simp⟩) (by assumption) ?_
      (try simp only [Act.put, List.setIfInBounds_toArray, List.set_cons_zero, List.set_cons_succ])
      refine held.take (i := 15) (v := .agg (arr f')) rfl (by kernel_rfl) (by kernel_rfl) (by kernel_rfl) (fun _ _ _ h => h) (Or.inl ⟨by rfl, fun W hW => by (try dsimp only at hW); go_simp⟩) (by assumption) ?_
      (try simp only [Act.put, List.setIfInBounds_toArray, List.set_cons_zero, List.set_cons_succ])
      refine held.take (i := 16) (v := .int .i64 k) rfl (by kernel_rfl) (by kernel_rfl) (by kernel_rfl) (fun _ _ _ h => h) (Or.inl ⟨by rfl, fun W hW => by (try dsimp only at hW); go_simp⟩) (by assumption) ?_
      (try simp only [Act.put, List.setIfInBounds_toArray, List.set_cons_zero, List.set_cons_succ])
      refine held.only (i := 18) (by kernel_rfl) rfl (fun K hK => ?_)
      refine step_of rfl (mrk.wp_storeA (.tmp 7) (.tmp 26) rfl _ f' rfl rfl noM hA5 ?_)
      intro w6 hA6 hO6
      have hB6 := hHeld.trans (hO6.below hl5)
      refine hK.out _ _ (by (try dsimp only); first | assumption | exact KB.out) (fun hHeld => ?_)
      clear hK K
      (try simp only [Act.put, List.setIfInBounds_toArray, List.set_cons_zero, List.set_cons_succ])
      refine held.take (i := 19) (v := .int .i64 k) rfl (by kernel_rfl) (by kernel_rfl) (by kernel_rfl) (fun _ _ _ h => h) (Or.inl ⟨by rfl, fun W hW => by (try dsimp only at hW); go_simp⟩) (by assumption) ?_
      (try simp only [Act.put, List.setIfInBounds_toArray, List.set_cons_zero, List.set_cons_succ])
      refine wpAnyH_done (by kernel_rfl) ?_ _
      refine NoPanic.normal ?_
      by_cases hk0 : k = 0
      · subst hk0
        have HE2 := Lib.hid (HE.out rfl)
        clear HE
        go_wp2_with (first
          | (refine wpList_loadA rfl _ rfl _ rfl _ hA6 ?_)
          | (refine wpList_storeCm rfl (.tmp 35) (.tmp 32) rfl (HA.out _ hB6) f' rfl rfl ?_; intro w7 hA7 hO7)
          | fail "NONE")
        go_ret
        exact HE2.out _ _ hB6 hO7 hA7
      · have hkn : (k != 0) = true := by simpa using hk0
        clear hk0
        go_wp2
        go_ret
        exact HX.out _ _ hB6
  · skip
    refine step_of rfl (wp_allocV 36 rfl (arr noM) (mrk.zer _) ?_)
    obtain ⟨w5, hw5⟩ : ∃ w5, World.alloc w.drew (.cells (arr noM) 36) = w5 := ⟨_, rfl⟩
    rw [hw5]
    have hB45 : Below (World.heap w.drew).size w.drew w5 := hw5 ▸ (Below.refl _ _).alloc (Nat.le_refl _) _
    have hA5 : Arr w5 (World.heap w.drew).size noM := hw5 ▸ At.new _ _ _
    have hl5 : w.heap.size ≤ (World.heap w.drew).size := (Below.size hHeld)
    have hB5 := KU.out _ w5 hHeld hB45
    clear hw5
    refine hK.out _ _ (by (try dsimp only); first | assumption | exact KB.out) (fun hHeld => ?_)
    clear hK K
    (try simp only [Act.put, List.setIfInBounds_toArray, List.set_cons_zero, List.set_cons_succ])
    refine held.only (i := 12) (by kernel_rfl) rfl (fun K hK => ?_)
    go_simp
    go_at_call 29
    (with_reducible refine (KL.out _ hHeld).mono ?_)
    rintro e wl ⟨rfl, rfl⟩
    refine hK.out _ _ (by (try dsimp only); first | assumption | exact KB.out) (fun hHeld => ?_)
    clear hK K
    (try simp only [Act.put, List.setIfInBounds_toArray, List.set_cons_zero, List.set_cons_succ])
    refine held.only (i := 13) (by kernel_rfl) rfl (fun K hK => ?_)
    go_simp
    go_at_call 33
    (with_reducible refine (KS.out _).mono ?_)
    rintro e w4 ⟨rfl, hB4'⟩
    have hB4 := KU.out _ w4 hHeld hB4'
    have hA5 := hA5.all hB4'
    refine hK.out _ _ (by (try dsimp only); first | assumption | exact KB.out) (fun hHeld => ?_)
    clear hK K
    (try simp only [Act.put, List.setIfInBounds_toArray, List.set_cons_zero, List.set_cons_succ])
    refine held.take (i := 14) (v := .tuple #[.agg (arr f'), .int .i64 k]) rfl (by kernel_rfl) (by kernel_rfl) (by kernel_rfl) (fun _ _ _ h => h) (Or.inl ⟨by rfl, fun W hW => by (try dsimp only at hW); go_simp⟩) (by assumption) ?_
    (try simp only [Act.put, List.setIfInBounds_toArray, List.set_cons_zero, List.set_cons_succ])
    refine held.take (i := 15) (v := .agg (arr f')) rfl (by kernel_rfl) (by kernel_rfl) (by kernel_rfl) (fun _ _ _ h => h) (Or.inl ⟨by rfl, fun W hW => by (try dsimp only at hW); go_simp⟩) (by assumption) ?_
    (try simp only [Act.put, List.setIfInBounds_toArray, List.set_cons_zero, List.set_cons_succ])
    refine held.take (i := 16) (v := .int .i64 k) rfl (by kernel_rfl) (by kernel_rfl) (by kernel_rfl) (fun _ _ _ h => h) (Or.inl ⟨by rfl, fun W hW => by (try dsimp only at hW); go_simp⟩) (by assumption) ?_
    (try simp only [Act.put, List.setIfInBounds_toArray, List.set_cons_zero, List.set_cons_succ])
    refine held.only (i := 18) (by kernel_rfl) rfl (fun K hK => ?_)
    refine step_of rfl (mrk.wp_storeA (.tmp 7) (.tmp 26) rfl _ f' rfl rfl noM hA5 ?_)
    intro w6 hA6 hO6
    have hB6 := hHeld.trans (hO6.below hl5)
    refine hK.out _ _ (by (try dsimp only); first | assumption | exact KB.out) (fun hHeld => ?_)
    clear hK K
    (try simp only [Act.put, List.setIfInBounds_toArray, List.set_cons_zero, List.set_cons_succ])
    refine held.take (i := 19) (v := .int .i64 k) rfl (by kernel_rfl) (by kernel_rfl) (by kernel_rfl) (fun _ _ _ h => h) (Or.inl ⟨by rfl, fun W hW => by (try dsimp only at hW); go_simp⟩) (by assumption) ?_
    (try simp only [Act.put, List.setIfInBounds_toArray, List.set_cons_zero, List.set_cons_succ])
    refine wpAnyH_done (by kernel_rfl) ?_ _
    refine NoPanic.normal ?_
    by_cases hk0 : k = 0
    · subst hk0
      have HE2 := Lib.hid (HE.out rfl)
      clear HE
      go_wp2_with (first
        | (refine wpList_loadA rfl _ rfl _ rfl _ hA6 ?_)
        | (refine wpList_storeCm rfl (.tmp 35) (.tmp 32) rfl (HA.out _ hB6) f' rfl rfl ?_; intro w7 hA7 hO7)
        | fail "NONE")
      go_ret
      exact HE2.out _ _ hB6 hO7 hA7
    · have hkn : (k != 0) = true := by simpa using hk0
      clear hk0
      go_wp2
      go_ret
      exact HX.out _ _ hB6
end
end Go.Proofs.Ytdbeedhedjhamaa.cor

/-! Core: append to a row of one's own: where the longer row lies. -/
namespace Go.Proofs.Ytdbeedhedjhamaa.cor
open Go.RowKit Go.Lib pce sps mrk
set_option linter.unusedVariables false
set_option linter.unusedSimpArgs false
set_option linter.unnecessarySimpa false
set_option linter.unusedSectionVars false

theorem own_slice {w : World} {base e size n : Nat} {v : Value} {xs : List Value} (h : w.ownsRow base e size v n xs) : ∃ A c, v = .slice A n c := by
  rcases h.2 with ⟨hv, h0⟩ | ⟨b, cap, _, hv, _⟩
  · exact ⟨none, 0, by rw [hv, h0]⟩
  · exact ⟨_, _, hv⟩
section
variable {P : Program} (w : World)
theorem append_where (base : Nat) (t ty e : TypeId) (i : TypeInfo) (z : Value) (size bytes : Nat) (ht : P.underlying t = some (.slice e)) (hi : P.info? e = some i) (hz : i.zero = some z)
    (hsize : i.size = size) (hby : i.bytes = bytes) (hzs : z.cells.size = size) (hsz : 0 < size)
    (v : Value) (n : Nat) (xs : List Value) (hown : w.ownsRow base e size v n xs)
    (a : Addr) (m c : Nat) (news : List Value) (hl : news.length = m * size) (hnews : ∀ j u, news[j]? = some u → w.cell? (a.add j) = some u) (h1 : ∀ u ∈ news, u.oneCell' = true)
    (h63 : n + m ≤ maxLen) (hbytes : (n + m) * bytes ≤ 140737488355328) (hbase : base ≤ w.heap.size) :
    ∃ v' w', (Builtin.append_ #[t, t] ty #[v, .slice (some a) m c]).run P w = .ok v' w' ∧ w'.ownsRow base e size v' (n + m) (xs ++ news) ∧ w.grownBy w' v.ownBlock ∧
      (∀ b, v'.ownBlock = some b → v.ownBlock = some b ∨ w.heap.size ≤ b) := by
  obtain ⟨v', w', hr, h2, h3, _⟩ := run_append_own (P := P) w base t ty e i z size bytes ht hi hz hsize hby hzs hsz v n xs hown a m c news hl hnews h1 h63 hbytes hbase
  refine ⟨v', w', hr, h2, h3, ?_⟩
  rcases hown.2 with ⟨rfl, rfl⟩ | ⟨g, cap, cur, rfl, hbg, hg, hnc, hcm, hcs, htake⟩
  · obtain rfl : xs = [] := List.eq_nil_of_length_eq_zero (by simpa using hown.1)
    obtain ⟨v2, w2, hr2, k2, _, _⟩ := run_append_own (P := P) w w.heap.size t ty e i z size bytes ht hi hz hsize hby hzs hsz _ 0 [] (World.ownsRow_nil w _ e size) a m c news hl hnews h1 h63 hbytes (Nat.le_refl _)
    rw [hr] at hr2
    injection hr2 with e1 e2
    subst e1 e2
    exact fun b hb => .inr (k2.lt b hb).1
  · have hsmall : n + m ≤ 9223372036854775807 := by simp only [maxLen] at h63; omega
    subst hsize hby
    by_cases hroom : n + m ≤ cap
    · have hfit : n * i.size + news.length ≤ cur.size := by rw [hl, hcs, ← Nat.add_mul]; exact Nat.mul_le_mul_right _ hroom
      have hr2 := run_append_room (P := P) w t ty e i ht hi g n cap cur hg a m c news hl hnews h1 hroom hfit
      rw [hr] at hr2
      injection hr2 with e1 e2
      subst e1
      exact fun b hb => .inl hb
    · have holds : ∀ j u, xs[j]? = some u → w.cell? ((⟨g, 0, none⟩ : Addr).add j) = some u := hown.cells (g := g) rfl
      have hr2 := run_append_grow (P := P) w t ty e i z ht hi hz ⟨g, 0, none⟩ n cap xs hown.1 holds a m c news hl hnews (by omega) (by omega) (growslice_fits (by omega) hbytes)
      rw [hr] at hr2
      injection hr2 with e1 e2
      subst e1
      intro b hb
      have : w.heap.size = b := by simpa [Value.ownBlock] using hb
      exact .inr (by omega)
theorem wp_append_at {o : Oper} {a : Act} {K : Act → World → Prop} {Q : Exit → Act → World → Prop} (s x : Operand) (t : TypeId)
    (ho : o.op = .call { callee := .builtin .append, args := #[s, x], argTypes := #[t, t] })
    (base : Nat) (e : TypeId) (i : TypeInfo) (z : Value) (size bytes : Nat) (ht : P.underlying t = some (.slice e)) (hi : P.info? e = some i) (hz : i.zero = some z)
    (hsize : i.size = size) (hby : i.bytes = bytes) (hzs : z.cells.size = size) (hsz : 0 < size)
    (v : Value) (n : Nat) (xs : List Value) (hs : a.eval s = v) (hown : w.ownsRow base e size v n xs)
    (ad : Addr) (m c : Nat) (news : List Value) (hx : a.eval x = .slice (some ad) m c) (hl : news.length = m * size) (hnews : ∀ j u, news[j]? = some u → w.cell? (ad.add j) = some u) (h1 : ∀ u ∈ news, u.oneCell' = true)
    (h63 : n + m ≤ maxLen) (hbytes : (n + m) * bytes ≤ 140737488355328) (hbase : base ≤ w.heap.size)
    (h : ∀ v' w', w'.ownsRow base e size v' (n + m) (xs ++ news) → w.grownBy w' v.ownBlock → (∀ b, v'.ownBlock = some b → v.ownBlock = some b ∨ w.heap.size ≤ b) → K (a.put o.dst v') w') : Oper.wp P o a w K Q := by
  obtain ⟨v', w', hr, h2, h3, h4⟩ := append_where (P := P) w base t o.type e i z size bytes ht hi hz hsize hby hzs hsz v n xs hown ad m c news hl hnews h1 h63 hbytes hbase
  unfold Oper.wp execOp
  simp only [ho, resolve, invoke, builtin, Sem.run_bind, Sem.run_pure, Result.andThen_ok, List.map_toArray, List.map_cons, List.map_nil, hs, hx, hr]
  exact h v' w' h2 h3 h4
end
end Go.Proofs.Ytdbeedhedjhamaa.cor
