/- Core: Begin, Mark. -/
import Derived.Test.YtdbeedhedjhamaaCorTurn
import Derived.Test.YtdbeedhedjhamaaCorView
/-! Core: New, Go, Mark, Begin. -/
namespace Go.Proofs.Ytdbeedhedjhamaa.cor
open Go.RowKit Go.Lib pce sps mrk
set_option linter.unusedVariables false
set_option linter.unusedSimpArgs false
set_option linter.unnecessarySimpa false
set_option linter.unusedSectionVars false

/-- A buffer that was made since w. -/
def NewSays (w : World) (zs : List ByteArray) (e : Ending) (w' : World) : Prop := ∃ cb G, e = .returned (.tuple #[.pointer (some ⟨cb, 0, none⟩), .int .i64 0]) ∧ Cr w.heap.size w cb (sNew zs) G w'
theorem noM_ints : Ints noM := fun i _ => ⟨by unfold noM; decide, by unfold noM; decide⟩
theorem cr_new (w w1 : World) (zs : List ByteArray) (tb : Nat) (ps : List Pc) (hB1 : Below w.heap.size w w1) (hT : Tab w1 (w.heap.size ≤ ·) (.pointer (some ⟨tb, 0, none⟩)) ps) (hx : texts ps = zs) :
    Cr w.heap.size w (w1.heap.size + 1 + 1) (sNew zs) (fun b => b = w1.heap.size + 1 + 1 ∨ b = w1.heap.size + 1) (((w1.alloc (.map #[] 0)).alloc (.cells #[.map (some w1.heap.size)] 72)).alloc (.cells (coL (.pointer (some ⟨tb, 0, none⟩)) ⟨zs, (zs.length : Nat), noM⟩ (.pointer none) (.pointer none) (.pointer (some ⟨w1.heap.size + 1, 0, none⟩)) ⟨#[]⟩ false).toArray 57)) := by
  have hs := hB1.size
  have hB3 : Below w1.heap.size w1 (((w1.alloc (.map #[] 0)).alloc (.cells #[.map (some w1.heap.size)] 72)).alloc (.cells (coL (.pointer (some ⟨tb, 0, none⟩)) ⟨zs, (zs.length : Nat), noM⟩ (.pointer none) (.pointer none) (.pointer (some ⟨w1.heap.size + 1, 0, none⟩)) ⟨#[]⟩ false).toArray 57)) := (((Below.refl _ _).alloc (Nat.le_refl _) _).alloc (by simp) _).alloc (by simp; omega) _
  refine ⟨hB1.trans (hB3.mono hs), Nat.le_refl _, fun b hb => ⟨by omega, by simp; omega⟩, .pointer (some ⟨tb, 0, none⟩), .pointer none, .pointer none, w1.heap.size + 1, ⟨#[]⟩, ?_, .inl rfl, .inr rfl, ⟨⟨ps, ((hT.mono fun b _ hl hg => by omega).below hB3), hx⟩, ?_, ?_, noM_ints⟩, ⟨w1.heap.size, #[], 0, ?_, by omega, ?_⟩, rfl, rfl⟩
  · have := At.new ((w1.alloc (.map #[] 0)).alloc (.cells #[.map (some w1.heap.size)] 72)) 57 (coL (.pointer (some ⟨tb, 0, none⟩)) ⟨zs, (zs.length : Nat), noM⟩ (.pointer none) (.pointer none) (.pointer (some ⟨w1.heap.size + 1, 0, none⟩)) ⟨#[]⟩ false).toArray
    rw [World.size_alloc, World.size_alloc] at this
    exact this
  · show (0 : Int) ≤ (zs.length : Nat); omega
  · exact Int.le_refl _
  · have := (At.new (w1.alloc (.map #[] 0)) 72 #[.map (some w1.heap.size)]).alloc (.cells (coL (.pointer (some ⟨tb, 0, none⟩)) ⟨zs, (zs.length : Nat), noM⟩ (.pointer none) (.pointer none) (.pointer (some ⟨w1.heap.size + 1, 0, none⟩)) ⟨#[]⟩ false).toArray 57)
    rw [World.size_alloc] at this
    exact this
  · exact (Below.heap_alloc _ _ _ (by simp; omega)).trans ((Below.heap_alloc _ _ _ (by simp)).trans (heap_alloc_new w1 _))
set_option maxHeartbeats 2000000 in
set_option maxRecDepth 100000 in
theorem new_is (w : World) (A : Option Addr) (n c : Nat) (zs : List ByteArray) (hn : n = zs.length) (hb : n ≤ 100000) (hA : A = none → c = 0) (hf : Fine zs) (h : SRd w w.heap.size A zs) :
    Calls Try.prog 25 #[.slice A n c] w (NewSays w zs) := by
  have K1 := Lib.hid (new_yes w A n c zs hn hb hA hf h)
  clear hn hb hA hf h
  go_enter Try.func25, Try.ntmps25
  go_wp2_with fail
  go_at_call 39
  refine K1.out.mono ?_
  rintro e w1 ⟨v, ps, rfl, hT, hx, hB1⟩
  obtain ⟨tb, rfl⟩ : ∃ tb, v = .pointer (some ⟨tb, 0, none⟩) := by
    obtain ⟨b, _, _, _, rfl, _⟩ := hT
    exact ⟨b, rfl⟩
  have KL := len_is w1 _ _ ps hT
  rw [hx] at KL
  have KL := Lib.hid KL
  have hm1 : w.heap.size ≤ w1.heap.size := hB1.size
  have HB1 := Lib.hid hB1
  have HT := Lib.hid hT
  have HX := Lib.hid hx
  clear hT hx hB1 K1
  go_wp2_with (first
    | (go_at_call 29; (with_reducible refine KL.out.mono ?_); rintro e w2 ⟨rfl, rfl⟩)
    | (go_at_call 40; (with_reducible refine (rnew_is _).mono ?_); rintro e w3 ⟨rfl, rfl⟩)
    | (refine wpList_buildV rfl 53 _ rfl #[(0, .pointer (some ⟨tb, 0, none⟩)), (1, .int .i64 (zs.length : Nat))] (by simp [Act.eval]) _ (bldM2 (some ⟨tb, 0, none⟩) zs (zs.length : Nat)) ?_)
    | (refine wpList_buildV rfl 57 _ rfl #[(0, .agg (moL (.pointer (some ⟨tb, 0, none⟩)) ⟨zs, (zs.length : Nat), noM⟩).toArray), (3, .pointer (some ⟨w1.heap.size + 1, 0, none⟩))] (by simp [Act.eval]) _ (bldC (.pointer (some ⟨tb, 0, none⟩)) ⟨zs, (zs.length : Nat), noM⟩ (some ⟨w1.heap.size + 1, 0, none⟩)) ?_)
    | (refine wpList_boxV rfl 57 _ rfl _ rfl ?_)
    | fail "NONE")
  have HF := Lib.hid (cr_new w w1 zs tb ps HB1.out HT.out HX.out)
  clear KL
  go_ret2
  exact ⟨_, _, rfl, HF.out⟩
set_option maxHeartbeats 2000000 in
theorem new_bad (w : World) (A : Option Addr) (n c : Nat) (zs : List ByteArray) (hn : n = zs.length) (hb : n ≤ 100000) (hf : ¬ Fine zs) (h : SRd w w.heap.size A zs) :
    Calls Try.prog 25 #[.slice A n c] w fun e w' => e = .returned (.tuple #[.pointer none, .int .i64 2]) ∧ Below w.heap.size w w' := by
  have K1 := Lib.hid (new_no w A n c zs hn hb hf h)
  clear hn hb hf h
  go_enter Try.func25, Try.ntmps25
  go_wp2_with (go_at_call 39; (with_reducible refine K1.out.mono ?_); rintro e w1 ⟨rfl, hB1⟩)
  go_ret2
  exact ⟨rfl, hB1⟩
section
variable {n cb : Nat} {w0 w : World} {G : Nat → Prop} {s : S}
/-- What Go tells: no such line; or it is the current one. -/
def GoSays (n : Nat) (w0 w : World) (cb : Nat) (s : S) (G : Nat → Prop) (l : Int) (e : Ending) (w' : World) : Prop := ∃ k s', e = .returned (.int .i64 k) ∧ Cr n w0 cb s' G w' ∧ Went G G w w' ∧ s'.begun = s.begun
set_option maxHeartbeats 2000000 in
set_option maxRecDepth 100000 in
theorem go_is (h : Cr n w0 cb s G w) (l : Int) (hl1 : -9223372036854775808 ≤ l) (hl2 : l ≤ 9223372036854775807) :
    Calls Try.prog 16 #[.pointer (some ⟨cb, 0, none⟩), .int .i64 l] w (GoSays n w0 w cb s G l) := by
  have KN := Lib.hid (isNone_is h)
  obtain ⟨v, bk, gn, rb, last, hi⟩ := h.is
  obtain ⟨tb, rfl, c0, c1, _⟩ := hi.cells
  obtain ⟨ps, ht, hp⟩ := hi.mo.tab
  have KL := len_is w _ _ ps ht
  rw [hp] at KL
  have KL := Lib.hid KL
  have hfr := hi.at_.frozen 1
  obtain ⟨N, hN⟩ : ∃ N, s.m.L.length = N := ⟨_, rfl⟩
  rw [hN] at KL
  have HE : Hid (0 ≤ l → l ≤ N → GoSays n w0 w cb s G l (.returned (.int .i64 0)) (w.setCell ⟨cb, 1, none⟩ (.int .i64 l))) := Lib.hid fun h1 h2 => by
    have hO : Only cb w (w.setCell ⟨cb, 1, none⟩ (.int .i64 l)) := Only.cell w cb 1 _
    have hi2 := hi.turn hO (co_set1 hi.at_ l) (⟨hi.mo.tab, h1, by rw [hN]; exact h2, hi.mo.ints⟩ : Mo w G _ ⟨s.m.L, l, s.m.f⟩) hi.back hi.begun
    exact ⟨0, _, rfl, h.turned (.of_only hO hi.gc) (fun b hb => by rw [hO.size]; exact (h.g b hb).2) hi2, .of_only hO hi.gc, rfl⟩
  have HX : Hid (GoSays n w0 w cb s G l (.returned (.int .i64 200)) w) := Lib.hid ⟨200, s, rfl, h, .refl _ _, rfl⟩
  clear ht hp hN hi h hl1 hl2
  by_cases h1 : l < 0
  · clear hfr HE
    go_enter Try.func16, Try.ntmps16
    go_wp2_with (first
      | (go_at_call 28; (with_reducible refine KN.out.mono ?_); rintro e w1 ⟨rfl, rfl⟩)
      | (go_at_call 29; (with_reducible refine KL.out.mono ?_); rintro e w2 ⟨rfl, rfl⟩))
    go_ret
    exact HX.out
  · by_cases h2 : (N : Int) < l
    · clear hfr HE
      go_enter Try.func16, Try.ntmps16
      go_wp2_with (first
        | (go_at_call 28; (with_reducible refine KN.out.mono ?_); rintro e w1 ⟨rfl, rfl⟩)
        | (go_at_call 29; (with_reducible refine KL.out.mono ?_); rintro e w2 ⟨rfl, rfl⟩))
      go_ret
      exact HX.out
    · have HE := Lib.hid (HE.out (by omega) (by omega))
      go_enter Try.func16, Try.ntmps16
      go_wp2_with (first
        | (go_at_call 28; (with_reducible refine KN.out.mono ?_); rintro e w1 ⟨rfl, rfl⟩)
        | (go_at_call 29; (with_reducible refine KL.out.mono ?_); rintro e w2 ⟨rfl, rfl⟩))
      go_ret
      exact HE.out
end
end Go.Proofs.Ytdbeedhedjhamaa.cor

/-! Core: Begin, Mark. -/
namespace Go.Proofs.Ytdbeedhedjhamaa.cor
open Go.RowKit Go.Lib pce sps mrk
set_option linter.unusedVariables false
set_option linter.unusedSimpArgs false
set_option linter.unnecessarySimpa false
set_option linter.unusedSectionVars false

section
variable {n cb : Nat} {w0 w : World} {G : Nat → Prop} {s : S}
/-- A change has begun. -/
def BeginSays (n : Nat) (w0 w : World) (cb : Nat) (s : S) (G : Nat → Prop) (e : Ending) (w' : World) : Prop := ∃ G', e = .returned (.int .i64 0) ∧ Cr n w0 cb ⟨s.m, s.back, some (s.m, []), s.dirty⟩ G' w' ∧ Went G G' w w'
/-- While a change is begun: the buffer's own block is as it was, but for the change; nothing else that lay there has turned. -/
def StB (w : World) (cb : Nat) (v : Value) (m : M) (bk rg : Value) (last : ByteArray) (d : Bool) (W : World) : Prop := Turned (fun b => b = cb) w W ∧ cb < w.heap.size ∧ ∃ g, At W cb 57 (coL v m bk g rg last d).toArray
section
variable {v : Value} {m : M} {bk rg : Value} {last : ByteArray} {d : Bool} {W W' : World}
theorem StB.moment (h : StB w cb v m bk rg last d W) : W.rangeAt cb 0 (moL v m) := by obtain ⟨_, _, g, hA⟩ := h; exact co_moment hA
theorem StB.regs (h : StB w cb v m bk rg last d W) : W.cell? ⟨cb, 30, none⟩ = some rg := by obtain ⟨_, _, g, hA⟩ := h; exact (co_cells hA).2.2.2.2.1
theorem StB.begun (h : StB w cb v m bk rg last d W) : (∃ g, W.cell? ⟨cb, 29, none⟩ = some g) ∧ W.frozen? ⟨cb, 29, none⟩ = false := by obtain ⟨_, _, g, hA⟩ := h; exact ⟨⟨g, (co_cells hA).2.2.2.1⟩, hA.frozen 29⟩
theorem StB.alloc (h : StB w cb v m bk rg last d W) (o : Obj) : StB w cb v m bk rg last d (W.alloc o) := by
  obtain ⟨h1, h2, g, hA⟩ := h
  exact ⟨h1.then_below ((Below.refl _ _).alloc (Nat.le_refl _) o), h2, g, hA.alloc o⟩
theorem StB.next (h : StB w cb v m bk rg last d W) (hB : Below W.heap.size W W') : StB w cb v m bk rg last d W' := by
  obtain ⟨h1, h2, g, hA⟩ := h
  exact ⟨h1.then_below hB, h2, g, hA.same (hB.block _ hA.lt)⟩
theorem StB.drew (h : StB w cb v m bk rg last d W) : StB w cb v m bk rg last d W.drew := by
  obtain ⟨h1, h2, g, hA⟩ := h
  exact ⟨h1.then_below (below_drew (Below.refl _ _)), h2, g, hA⟩
theorem StB.set29 (h : StB w cb v m bk rg last d W) (z : Value) : StB w cb v m bk rg last d (W.setCell ⟨cb, 29, none⟩ z) := by
  obtain ⟨h1, h2, g, hA⟩ := h
  exact ⟨h1.then_only (Only.cell W cb 29 z) (.inl rfl), h2, z, co_set29 hA z⟩
end
theorem cr_begin {tb rb kb : Nat} {bk : Value} {last : ByteArray} {w3 : World} (h : Cr n w0 cb s G w) (hi : Is n w G cb s (.pointer (some ⟨tb, 0, none⟩)) bk (.pointer none) rb last) (hG : ∀ b, G b → b < w.heap.size) (hB : Below w.heap.size w w3) (hk : w.heap.size ≤ kb) (hr : Rg w3 G kb) :
    BeginSays n w0 w cb s G (.returned (.int .i64 0)) ((w3.alloc (.cells (chL (.pointer (some ⟨tb, 0, none⟩)) s.m (.pointer (some ⟨kb, 0, none⟩)) (.slice none 0 0)).toArray 69)).setCell ⟨cb, 29, none⟩ (.pointer (some ⟨w3.heap.size, 0, none⟩))) := by
  obtain ⟨w4, hw4⟩ : ∃ w4, w3.alloc (.cells (chL (.pointer (some ⟨tb, 0, none⟩)) s.m (.pointer (some ⟨kb, 0, none⟩)) (.slice none 0 0)).toArray 69) = w4 := ⟨_, rfl⟩
  rw [hw4]
  have hB34 : Below w3.heap.size w3 w4 := hw4 ▸ (Below.refl _ _).alloc (Nat.le_refl _) _
  have hz4 : w4.heap.size = w3.heap.size + 1 := by rw [← hw4]; simp
  have hA4 : At w4 w3.heap.size 69 (chL (.pointer (some ⟨tb, 0, none⟩)) s.m (.pointer (some ⟨kb, 0, none⟩)) (.slice none 0 0)).toArray := hw4 ▸ At.new w3 _ _
  have hB4 : Below w.heap.size w w4 := hB.trans (hB34.mono hB.size)
  have hs := hB.size
  have h2 : ∀ b, (G b ∨ b = w3.heap.size) → G b ∨ w.heap.size ≤ b := fun b hb => hb.elim .inl (fun e => .inr (by omega))
  have h3 : ∀ b, (G b ∨ b = w3.heap.size) → G b ∨ w3.heap.size ≤ b := fun b hb => hb.elim .inl (fun e => .inr (by omega))
  have hi4 := hi.grow (G' := fun b => G b ∨ b = w3.heap.size) hB4 hG (fun b hb => .inl hb) h2
  have hO : Only cb w4 (w4.setCell ⟨cb, 29, none⟩ (.pointer (some ⟨w3.heap.size, 0, none⟩))) := Only.cell _ _ _ _
  have hgn : Gn n w4 (fun b => G b ∨ b = w3.heap.size) (some (s.m, [])) (.pointer (some ⟨w3.heap.size, 0, none⟩)) :=
    ⟨w3.heap.size, _, kb, .slice none 0 0, rfl, .inr rfl, hA4, hi4.mo, hr.grow hB34 h3, fun hg => hg.elim (fun hg => by have := hG _ hg; omega) (fun e => by have := hr.lt; omega), ⟨World.ownsRow_nil _ _ _ _, (fun b hb => by cases hb), (fun t ht => by cases ht)⟩⟩
  have hi5 := hi4.turn hO (co_set29 hi4.at_ (.pointer (some ⟨w3.heap.size, 0, none⟩))) hi4.mo hi4.back hgn
  have hW4 : Went G (fun b => G b ∨ b = w3.heap.size) w w4 := ⟨.of_below hB4 _, h2⟩
  have hW5 := hW4.trans (.of_only hO (.inl hi.gc))
  have hl : ∀ b, (G b ∨ b = w3.heap.size) → b < (w4.setCell ⟨cb, 29, none⟩ (.pointer (some ⟨w3.heap.size, 0, none⟩))).heap.size := fun b hb => by
    rw [hO.size]
    rcases hb with hb | hb
    · have := hG b hb; omega
    · omega
  exact ⟨_, rfl, h.turned hW5 hl hi5, hW5⟩
set_option maxHeartbeats 4000000 in
set_option maxRecDepth 100000 in
theorem begin_is (h : Cr n w0 cb s G w) (hb : s.begun = none) : Calls Try.prog 20 #[.pointer (some ⟨cb, 0, none⟩)] w (BeginSays n w0 w cb s G) := by
  have KN := Lib.hid (isNone_is h)
  obtain ⟨v, bk, gn, rb, last, hi⟩ := h.is
  have hG := fun b (hb : G b) => (h.g b hb).2
  obtain ⟨tb, rfl, c0, c1, _, c29, _⟩ := hi.cells
  obtain rfl : gn = .pointer none := by have := hi.begun; rw [hb] at this; exact this
  have hS0 : StB w cb (.pointer (some ⟨tb, 0, none⟩)) s.m bk (.pointer (some ⟨rb, 0, none⟩)) last s.dirty w := ⟨.refl _ _, hi.at_.lt, _, hi.at_⟩
  have KB : Hid (StB w cb (.pointer (some ⟨tb, 0, none⟩)) s.m bk (.pointer (some ⟨rb, 0, none⟩)) last s.dirty w.drew) := Lib.hid hS0.drew
  have hB0 : Below w.heap.size w w.drew := below_drew (Below.refl _ _)
  have KS : Hid (Calls Try.prog 34 #[.pointer (some ⟨rb, 0, none⟩)] w.drew fun e w' => ∃ kb, e = .returned (.pointer (some ⟨kb, 0, none⟩)) ∧ Hid (w.heap.size ≤ kb ∧ Rg w' G kb) ∧ Hid (Below w.heap.size w w') ∧ StB w cb (.pointer (some ⟨tb, 0, none⟩)) s.m bk (.pointer (some ⟨rb, 0, none⟩)) last s.dirty w') := Lib.hid (by
    refine (rclone_is w.drew G rb (hi.move hB0 hG).rg hG).mono ?_
    rintro e w' ⟨kb, rfl, hk, hB⟩
    exact ⟨kb, rfl, hk, hB0.trans hB, hS0.drew.next hB⟩)
  have HI := Lib.hid hi
  have HC := Lib.hid h
  have HG := Lib.hid hG
  clear hi h c0 c1 hS0 hB0 hG
  go_enter Try.func20, Try.ntmps20
  go_wp2_with (first
    | (go_at_call 28; (with_reducible refine KN.out.mono ?_); rintro e w2 ⟨rfl, rfl⟩)
    | fail "NONE")
  refine wp_region_noPanic ?_
  refine wp_region_held_drew (S := fun W => StB w cb (.pointer (some ⟨tb, 0, none⟩)) s.m bk (.pointer (some ⟨rb, 0, none⟩)) last s.dirty W) (by kernel_rfl) (by (try dsimp only); first | assumption | exact KB.out) (fun hHeld => ?_)
  refine held.take (i := 0) (v := .pointer (some ⟨cb, 0, none⟩)) rfl (by kernel_rfl) (by kernel_rfl) (by kernel_rfl) (fun _ _ _ h => h) (Or.inl ⟨by rfl, fun W hW => by (try dsimp only at hW); go_simp⟩) (by assumption) ?_
  (try simp only [Act.put, List.setIfInBounds_toArray, List.set_cons_zero, List.set_cons_succ])
  refine held.take (i := 1) (v := .pointer (some ⟨cb, 0, none⟩)) rfl (by kernel_rfl) (by kernel_rfl) (by kernel_rfl) (fun _ _ _ h => h) (Or.inl ⟨by rfl, fun W hW => by (try dsimp only at hW); go_simp⟩) (by assumption) ?_
  (try simp only [Act.put, List.setIfInBounds_toArray, List.set_cons_zero, List.set_cons_succ])
  refine held.take (i := 2) (v := .pointer (some ⟨cb, 0, none⟩)) rfl (by kernel_rfl) (by kernel_rfl) (by kernel_rfl) (fun _ _ _ h => h) (Or.inl ⟨by rfl, fun W hW => by (try dsimp only at hW); go_simp⟩) (by assumption) ?_
  (try simp only [Act.put, List.setIfInBounds_toArray, List.set_cons_zero, List.set_cons_succ])
  refine held.take (i := 3) (v := .pointer (some ⟨cb, 0, none⟩)) rfl (by kernel_rfl) (by kernel_rfl) (by kernel_rfl) (fun _ _ _ h => h) (Or.inl ⟨by rfl, fun W hW => by (try dsimp only at hW); go_simp⟩) (by assumption) ?_
  (try simp only [Act.put, List.setIfInBounds_toArray, List.set_cons_zero, List.set_cons_succ])
  refine held.take (i := 4) (v := .agg (moL (.pointer (some ⟨tb, 0, none⟩)) s.m).toArray) rfl (by kernel_rfl) (by kernel_rfl) (by kernel_rfl) (fun _ _ _ h => h) (yields_loadV (by rfl) _ _ rfl undM infM cb 0 rfl _ (moL_len _ _) (fun W hW => hW.moment)) (by assumption) ?_
  (try simp only [Act.put, List.setIfInBounds_toArray, List.set_cons_zero, List.set_cons_succ])
  refine held.take (i := 5) (v := .pointer (some ⟨cb, 0, none⟩)) rfl (by kernel_rfl) (by kernel_rfl) (by kernel_rfl) (fun _ _ _ h => h) (Or.inl ⟨by rfl, fun W hW => by (try dsimp only at hW); go_simp⟩) (by assumption) ?_
  (try simp only [Act.put, List.setIfInBounds_toArray, List.set_cons_zero, List.set_cons_succ])
  refine held.take (i := 6) (v := .pointer (some ⟨cb, 0, none⟩)) rfl (by kernel_rfl) (by kernel_rfl) (by kernel_rfl) (fun _ _ _ h => h) (Or.inl ⟨by rfl, fun W hW => by (try dsimp only at hW); go_simp⟩) (by assumption) ?_
  (try simp only [Act.put, List.setIfInBounds_toArray, List.set_cons_zero, List.set_cons_succ])
  refine held.take (i := 7) (v := .pointer (some ⟨cb, 30, none⟩)) rfl (by kernel_rfl) (by kernel_rfl) (by kernel_rfl) (fun _ _ _ h => h) (Or.inl ⟨by rfl, fun W hW => by (try dsimp only at hW); go_simp⟩) (by assumption) ?_
  (try simp only [Act.put, List.setIfInBounds_toArray, List.set_cons_zero, List.set_cons_succ])
  refine held.take (i := 8) (v := .pointer (some ⟨rb, 0, none⟩)) rfl (by kernel_rfl) (by kernel_rfl) (by kernel_rfl) (fun _ _ _ h => h) (Or.inl ⟨by rfl, fun W hW => by (try dsimp only at hW); have c30 := hW.regs; go_simp⟩) (by assumption) ?_
  (try simp only [Act.put, List.setIfInBounds_toArray, List.set_cons_zero, List.set_cons_succ])
  refine held.only (i := 9) (by kernel_rfl) rfl (fun K hK => ?_)
  go_simp
  go_at_call 34
  (with_reducible refine KS.out.mono ?_)
  rintro e w3 ⟨kb, rfl, hk3, hB3, hS3⟩
  refine hK.out _ _ (by (try dsimp only); first | assumption | exact KB.out) (fun hHeld => ?_)
  clear hK K
  (try simp only [Act.put, List.setIfInBounds_toArray, List.set_cons_zero, List.set_cons_succ])
  refine held.take (i := 10) (v := .agg (chL (.pointer (some ⟨tb, 0, none⟩)) s.m (.pointer (some ⟨kb, 0, none⟩)) (.slice none 0 0)).toArray) rfl (by kernel_rfl) (by kernel_rfl) (by kernel_rfl) (fun _ _ _ h => h) (yields_buildV (by rfl) _ _ rfl #[(0, .agg (moL (.pointer (some ⟨tb, 0, none⟩)) s.m).toArray), (1, .pointer (some ⟨kb, 0, none⟩))] (by simp [Act.eval]) _ (bldH _ s.m (some ⟨kb, 0, none⟩))) (by assumption) ?_
  (try simp only [Act.put, List.setIfInBounds_toArray, List.set_cons_zero, List.set_cons_succ])
  refine held.only (i := 11) (by kernel_rfl) rfl (fun K hK => ?_)
  refine step_of rfl (wp_boxV 69 (.tmp 20) rfl _ rfl ?_)
  obtain ⟨w4, hw4⟩ : ∃ w4, w3.alloc (.cells (chL (.pointer (some ⟨tb, 0, none⟩)) s.m (.pointer (some ⟨kb, 0, none⟩)) (.slice none 0 0)).toArray 69) = w4 := ⟨_, rfl⟩
  rw [hw4]
  have hS4 : StB w cb (.pointer (some ⟨tb, 0, none⟩)) s.m bk (.pointer (some ⟨rb, 0, none⟩)) last s.dirty w4 := hw4 ▸ hS3.alloc _
  refine hK.out _ _ (by (try dsimp only); first | assumption | exact KB.out) (fun hHeld => ?_)
  clear hK K
  (try simp only [Act.put, List.setIfInBounds_toArray, List.set_cons_zero, List.set_cons_succ])
  refine held.take (i := 12) (v := .pointer (some ⟨cb, 0, none⟩)) rfl (by kernel_rfl) (by kernel_rfl) (by kernel_rfl) (fun _ _ _ h => h) (Or.inl ⟨by rfl, fun W hW => by (try dsimp only at hW); go_simp⟩) (by assumption) ?_
  (try simp only [Act.put, List.setIfInBounds_toArray, List.set_cons_zero, List.set_cons_succ])
  refine held.take (i := 13) (v := .pointer (some ⟨cb, 29, none⟩)) rfl (by kernel_rfl) (by kernel_rfl) (by kernel_rfl) (fun _ _ _ h => h) (Or.inl ⟨by rfl, fun W hW => by (try dsimp only at hW); go_simp⟩) (by assumption) ?_
  (try simp only [Act.put, List.setIfInBounds_toArray, List.set_cons_zero, List.set_cons_succ])
  obtain ⟨⟨o29, c29'⟩, f29⟩ := hS4.begun
  refine held.only (i := 14) (by kernel_rfl) rfl (fun K hK => ?_)
  go_simp
  have hS5 := hS4.set29 (.pointer (some ⟨w3.heap.size, 0, none⟩))
  refine hK.out _ _ (by (try dsimp only); first | assumption | exact KB.out) (fun hHeld => ?_)
  clear hK K
  (try simp only [Act.put, List.setIfInBounds_toArray, List.set_cons_zero, List.set_cons_succ])
  refine wpAnyH_done (by kernel_rfl) ?_ _
  refine NoPanic.normal ?_
  have HF := Lib.hid (cr_begin HC.out HI.out HG.out hB3.out hk3.out.1 hk3.out.2)
  rw [hw4] at HF
  clear hw4
  go_wp2
  go_ret
  exact HF.out
end
end Go.Proofs.Ytdbeedhedjhamaa.cor
