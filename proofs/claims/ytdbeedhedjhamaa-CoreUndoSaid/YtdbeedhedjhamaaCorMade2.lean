/- Core: a buffer that acts have made, walked. -/
import Derived.Test.YtdbeedhedjhamaaCorAct
/-! Core: a buffer that acts have made. -/
namespace Go.Proofs.Ytdbeedhedjhamaa.cor
open Go.RowKit Go.Lib pce sps mrk
set_option linter.unusedVariables false
set_option linter.unusedSimpArgs false
set_option linter.unnecessarySimpa false
set_option linter.unusedSectionVars false

/-- A buffer, after k acts. -/
def Tot (n : Nat) (w0 : World) (cb k : Nat) (w : World) : Prop := ∃ s G, Cr n w0 cb s G w ∧ ∀ m ts, s.begun = some (m, ts) → ts.length ≤ k
/-- A buffer of which no change has begun. -/
def Made (n : Nat) (w0 : World) (cb : Nat) (w : World) : Prop := ∃ s G, Cr n w0 cb s G w ∧ s.begun = none
section
variable {n cb k : Nat} {w0 w w' : World}
theorem Tot.move (h : Tot n w0 cb k w) (hB : Below w.heap.size w w') : Tot n w0 cb k w' := by
  obtain ⟨s, G, h1, h2⟩ := h
  exact ⟨s, G, h1.move hB, h2⟩
theorem Tot.below (h : Tot n w0 cb k w) : Below n w0 w := by obtain ⟨_, _, h, _⟩ := h; exact h.below
theorem Tot.mono {k' : Nat} (h : Tot n w0 cb k w) (hk : k ≤ k') : Tot n w0 cb k' w := by
  obtain ⟨s, G, h1, h2⟩ := h
  exact ⟨s, G, h1, fun m ts he => Nat.le_trans (h2 m ts he) hk⟩
/-- What an act answers, whatever it is. -/
def TotSays (n : Nat) (w0 : World) (cb k : Nat) (e : Ending) (w' : World) : Prop := (∃ v, e = .returned v) ∧ Tot n w0 cb k w'
theorem begin_tot (h : Tot n w0 cb k w) : Calls Try.prog 20 #[.pointer (some ⟨cb, 0, none⟩)] w (TotSays n w0 cb k) := by
  obtain ⟨s, G, h1, h2⟩ := h
  cases hb : s.begun with
  | none =>
    refine (begin_is h1 hb).mono ?_
    rintro e w' ⟨G', rfl, hC, _⟩
    refine ⟨⟨_, rfl⟩, _, _, hC, ?_⟩
    intro m ts he
    cases he
    exact Nat.zero_le _
  | some q =>
    refine (begin_no h1 hb).mono ?_
    rintro e w' ⟨rfl, rfl⟩
    exact ⟨⟨_, rfl⟩, _, _, h1, h2⟩
theorem splice_tot (h : Tot n w0 cb k w) (hk : k ≤ 1000) (t : Ct) (ht : CtOk w (· < n) t) (hb : t.ins.length ≤ 10000) :
    Calls Try.prog 21 #[.pointer (some ⟨cb, 0, none⟩), .agg #[.int .i64 t.a, .int .i64 t.d, .slice t.A t.ins.length t.c]] w (TotSays n w0 cb (k + 1)) := by
  obtain ⟨s, G, h1, h2⟩ := h
  cases hs : s.begun with
  | none =>
    refine (splice_none h1 hs t.a t.d t.A t.ins.length t.c).mono ?_
    rintro e w' ⟨rfl, hB⟩
    exact ⟨⟨_, rfl⟩, _, _, h1.move hB, fun m ts he => by rw [hs] at he; cases he⟩
  | some q =>
    obtain ⟨m0, ts⟩ := q
    have hl := h2 m0 ts hs
    refine (splice_is h1 m0 ts hs (by omega) t (· < n) _ rfl ht (fun b hb hg => by have := (h1.g b hg).1; omega) hb).mono ?_
    rintro e w' ⟨G', _, rfl, ⟨_, hC⟩ | ⟨_, A', c', hC⟩⟩
    · exact ⟨⟨_, rfl⟩, _, _, hC, fun m ts' he => Nat.le_succ_of_le (h2 m ts' he)⟩
    · refine ⟨⟨_, rfl⟩, _, _, hC, fun m ts' he => ?_⟩
      cases he
      simp only [List.length_append, List.length_singleton]
      omega
theorem end_tot (h : Tot n w0 cb k w) (hk : k ≤ 1000) : Calls Try.prog 22 #[.pointer (some ⟨cb, 0, none⟩)] w fun e w' => (∃ v, e = .returned v) ∧ Made n w0 cb w' := by
  obtain ⟨s, G, h1, h2⟩ := h
  cases hs : s.begun with
  | none =>
    refine (end_none h1 hs).mono ?_
    rintro e w' ⟨rfl, rfl⟩
    exact ⟨⟨_, rfl⟩, _, _, h1, hs⟩
  | some q =>
    obtain ⟨m0, ts⟩ := q
    have hl := h2 m0 ts hs
    refine (end_is h1 m0 ts hs (by omega)).mono ?_
    rintro e w' ⟨G', _, ⟨_, rfl, hC⟩ | ⟨_, A', c', rfl, _, _, hC⟩⟩
    · exact ⟨⟨_, rfl⟩, _, _, hC, rfl⟩
    · exact ⟨⟨_, rfl⟩, _, _, hC, rfl⟩
theorem Made.tot (h : Made n w0 cb w) : Tot n w0 cb k w := by
  obtain ⟨s, G, h1, h2⟩ := h
  exact ⟨s, G, h1, fun m ts he => by rw [h2] at he; cases he⟩
theorem end_tot' (h : Tot n w0 cb k w) (hk : k ≤ 1000) : Calls Try.prog 22 #[.pointer (some ⟨cb, 0, none⟩)] w (TotSays n w0 cb k) := (end_tot h hk).mono fun e w' h => ⟨h.1, h.2.tot⟩
theorem abort_tot (h : Tot n w0 cb k w) : Calls Try.prog 11 #[.pointer (some ⟨cb, 0, none⟩)] w (TotSays n w0 cb k) := by
  obtain ⟨s, G, h1, h2⟩ := h
  cases hs : s.begun with
  | none =>
    refine (abort_none h1 hs).mono ?_
    rintro e w' ⟨rfl, rfl⟩
    exact ⟨⟨_, rfl⟩, _, _, h1, h2⟩
  | some q =>
    obtain ⟨m0, ts⟩ := q
    refine (abort_is h1 m0 ts hs).mono ?_
    rintro e w' ⟨rfl, hC, _⟩
    exact ⟨⟨_, rfl⟩, _, _, hC, fun m ts he => by cases he⟩
theorem undo_tot (h : Tot n w0 cb k w) : Calls Try.prog 7 #[.pointer (some ⟨cb, 0, none⟩)] w (TotSays n w0 cb k) := by
  obtain ⟨s, G, h1, h2⟩ := h
  cases hs : s.begun with
  | none =>
    cases hb : s.back with
    | none =>
      refine (undo_none h1 hs hb).mono ?_
      rintro e w' ⟨rfl, rfl⟩
      exact ⟨⟨_, rfl⟩, _, _, h1, h2⟩
    | some mb =>
      refine (undo_is h1 hs mb hb).mono ?_
      rintro e w' ⟨A, A2, c2, rfl, _, hC, _⟩
      exact ⟨⟨_, rfl⟩, _, _, hC, fun m ts he => by cases he⟩
  | some q =>
    refine (undo_begun h1 hs).mono ?_
    rintro e w' ⟨rfl, rfl⟩
    exact ⟨⟨_, rfl⟩, _, _, h1, h2⟩
theorem go_tot (h : Tot n w0 cb k w) (l : Int) (hl1 : -9223372036854775808 ≤ l) (hl2 : l ≤ 9223372036854775807) : Calls Try.prog 16 #[.pointer (some ⟨cb, 0, none⟩), .int .i64 l] w (TotSays n w0 cb k) := by
  obtain ⟨s, G, h1, h2⟩ := h
  refine (go_is h1 l hl1 hl2).mono ?_
  rintro e w' ⟨q, s', rfl, hC, _, he⟩
  exact ⟨⟨_, rfl⟩, _, _, hC, fun m ts hs => h2 m ts (he ▸ hs)⟩
theorem mark_tot (h : Tot n w0 cb k w) (b : Nat) (hb : b < 256) (l : Int) (hl1 : -9223372036854775808 ≤ l) (hl2 : l ≤ 9223372036854775807) : Calls Try.prog 17 #[.pointer (some ⟨cb, 0, none⟩), .int .u8 b, .int .i64 l] w (TotSays n w0 cb k) := by
  obtain ⟨s, G, h1, h2⟩ := h
  refine (mark_is h1 b hb l hl1 hl2).mono ?_
  rintro e w' ⟨q, s', rfl, hC, _, he⟩
  exact ⟨⟨_, rfl⟩, _, _, hC, fun m ts hs => h2 m ts (he ▸ hs)⟩
end
set_option maxHeartbeats 8000000 in
set_option maxRecDepth 100000 in
theorem made_no (w : World) (A : Option Addr) (n c : Nat) (zs : List ByteArray) (B : Option Addr) (m c2 : Nat) (hn : n = zs.length) (hb : n ≤ 100000) (hf : ¬ Fine zs) (h : SRd w w.heap.size A zs) :
    Calls Try.prog 24 #[.slice A n c, .slice B m c2] w fun e w' => e = .returned (.pointer none) ∧ Below w.heap.size w w' := by
  have K1 := Lib.hid (new_bad w A n c zs hn hb hf h)
  have HF := Lib.hid hf
  clear hn hb h hf
  go_enter Try.func24, Try.ntmps24
  go_wp2_with fail
  go_at_call 25
  refine K1.out.mono ?_
  rintro e w1 ⟨rfl, hB⟩
  go_wp2
  go_ret
  exact ⟨rfl, hB⟩
end Go.Proofs.Ytdbeedhedjhamaa.cor

/-! Core: a buffer that acts have made, walked. -/
namespace Go.Proofs.Ytdbeedhedjhamaa.cor
open Go.RowKit Go.Lib pce sps mrk
set_option linter.unusedVariables false
set_option linter.unusedSimpArgs false
set_option linter.unnecessarySimpa false
set_option linter.unusedSectionVars false

set_option maxHeartbeats 16000000 in
set_option maxRecDepth 100000 in
theorem made_is (w : World) (A : Option Addr) (n c : Nat) (zs : List ByteArray) (B : Option Addr) (m c2 : Nat) (xs : List Ac) (hn : n = zs.length) (hb : n ≤ 100000) (hA : A = none → c = 0) (hf : Fine zs) (h : SRd w w.heap.size A zs)
    (hm : m = xs.length) (hm2 : m ≤ 1000) (hx : Acs w (· < w.heap.size) B xs) (hl : ∀ x ∈ xs, x.t.ins.length ≤ 20) :
    Calls Try.prog 24 #[.slice A n c, .slice B m c2] w fun e w' => ∃ cb, e = .returned (.pointer (some ⟨cb, 0, none⟩)) ∧ Made w.heap.size w cb w' := by
  have K1 := Lib.hid (new_is w A n c zs hn hb hA hf h)
  have HX := Lib.hid hx
  have HL := Lib.hid hl
  have HM := Lib.hid hm
  clear hn hb h hf hx hl hm hA
  go_enter Try.func24, Try.ntmps24
  go_wp2_with fail
  go_at_call 25
  refine K1.out.mono ?_
  rintro e w1 ⟨cb, G0, rfl, hC⟩
  have HT : Hid (Tot w.heap.size w cb 0 w1) := Lib.hid ⟨_, _, hC, fun m ts he => by cases he⟩
  clear hC K1
  go_wp2_with fail
  go_loopg [7] m (fun g s7 wr => ∃ k : Nat, k ≤ m ∧ m - k ≤ g ∧ s7 = .int .i64 k ∧ Hid (Tot w.heap.size w cb k wr))
  case atStart => exact ⟨0, Nat.zero_le _, by omega, rfl, HT⟩
  case round =>
    obtain ⟨k, hk, hg, rfl, HW⟩ := hrel
    clear HT
    by_cases hlt : k < m
    · have hkl : k < xs.length := by rw [← HM.out]; exact hlt
      obtain ⟨x, hx⟩ : ∃ x, xs[k]? = some x := ⟨_, List.getElem?_eq_getElem hkl⟩
      have hxm := List.mem_of_getElem? hx
      have hX' : Acs wr (· < w.heap.size) B xs := HX.out.keep (fun b hb _ => HW.out.below.block b hb) HW.out.below.size
      have hok := Lib.hid (hX'.each x hxm)
      obtain ⟨b, off, rfl, _, _, hc⟩ := hX'.at hx
      have HI := Lib.hid (HL.out x hxm)
      clear hkl hxm hX' hx HX HL HM
      have g0 : wr.cell? ⟨b, off + k * 7, none⟩ = some (.int .u8 x.kind) := hc 0 _ rfl
      have g1 : wr.cell? ⟨b, off + k * 7 + 1, none⟩ = some (.int .i64 x.t.a) := hc 1 _ rfl
      have g2 : wr.cell? ⟨b, off + k * 7 + 2, none⟩ = some (.int .i64 x.t.d) := hc 2 _ rfl
      have g3 : wr.cell? ⟨b, off + k * 7 + 3, none⟩ = some (.slice x.t.A x.t.ins.length x.t.c) := hc 3 _ rfl
      have g4 : wr.cell? ⟨b, off + k * 7 + 4, none⟩ = some (.int .i64 x.at_) := hc 4 _ rfl
      have g5 : wr.cell? ⟨b, off + k * 7 + 5, none⟩ = some (.int .u8 x.letter) := hc 5 _ rfl
      have g6 : wr.cell? ⟨b, off + k * 7 + 6, none⟩ = some (.string x.text) := hc 6 _ rfl
      clear hc
      have hw : Below wr.heap.size wr (wr.alloc (.cells #[.int .u8 x.kind, .int .i64 x.t.a, .int .i64 x.t.d, .slice x.t.A x.t.ins.length x.t.c, .int .i64 x.at_, .int .u8 x.letter, .string x.text] 26)) := (Below.refl _ _).alloc (Nat.le_refl _) _
      have HW2 := Lib.hid (HW.out.move hw)
      have hok2 := Lib.hid (hok.out.keep (fun b hb hl => hw.block b hl) hw.size)
      have hk2 : k ≤ 1000 := by omega
      have HI2 : Hid (x.t.ins.length ≤ 10000) := Lib.hid (Nat.le_trans HI.out (by decide))
      clear hw hok HI
      go_wp2_with fail
      all_goals first
        | (go_at_call 20; (with_reducible refine (begin_tot HW2.out).mono ?_); rintro e w2 ⟨⟨v, rfl⟩, hT⟩)
        | (go_at_call 21; (with_reducible refine (splice_tot HW2.out hk2 x.t hok2.out.t HI2.out).mono ?_); rintro e w2 ⟨⟨v, rfl⟩, hT⟩)
        | (go_at_call 22; (with_reducible refine (end_tot' HW2.out hk2).mono ?_); rintro e w2 ⟨⟨v, rfl⟩, hT⟩)
        | (go_at_call 11; (with_reducible refine (abort_tot HW2.out).mono ?_); rintro e w2 ⟨⟨v, rfl⟩, hT⟩)
        | (go_at_call 7; (with_reducible refine (undo_tot HW2.out).mono ?_); rintro e w2 ⟨⟨v, rfl⟩, hT⟩)
        | (go_at_call 16; (with_reducible refine (go_tot HW2.out x.at_ hok2.out.a1 hok2.out.a2).mono ?_); rintro e w2 ⟨⟨v, rfl⟩, hT⟩)
        | (go_at_call 17; (with_reducible refine (mark_tot HW2.out x.letter hok2.out.letter x.at_ hok2.out.a1 hok2.out.a2).mono ?_); rintro e w2 ⟨⟨v, rfl⟩, hT⟩)
        | have hT := HW2.out
      all_goals (try go_wp2)
      all_goals
        go_roundg (m - (k + 1))
        case measure => omega
        case rel => exact ⟨k + 1, by omega, by omega, by go_num, Lib.hid (hT.mono (by omega))⟩
    · obtain rfl : k = m := by omega
      have KE := Lib.hid (end_tot HW.out (by omega))
      go_wp2_with (go_at_call 22; (with_reducible refine KE.out.mono ?_); rintro e w2 ⟨⟨v, rfl⟩, hM⟩)
      go_ret
      exact ⟨cb, rfl, hM⟩
end Go.Proofs.Ytdbeedhedjhamaa.cor
