/- Core: what is asked of a buffer: isNone, N, Lines, Cur, Dirty. -/
import Derived.Test.YtdbeedhedjhamaaCorKit
namespace Go.Proofs.Ytdbeedhedjhamaa.cor
open Go.RowKit Go.Lib pce sps mrk
set_option linter.unusedVariables false
set_option linter.unusedSimpArgs false
set_option linter.unnecessarySimpa false
set_option linter.unusedSectionVars false

/-- No buffer: nil, or one without a table. -/
def NoC (w : World) (u : Value) : Prop := u = .pointer none ∨ ∃ b cs, u = .pointer (some ⟨b, 0, none⟩) ∧ At w b 57 cs ∧ cs[0]? = some (.pointer none)
theorem NoC.below {w w' : World} {u : Value} (h : NoC w u) (hB : Below w.heap.size w w') : NoC w' u := by
  rcases h with h | ⟨b, cs, h1, h2, h3⟩
  · exact .inl h
  · exact .inr ⟨b, cs, h1, h2.same (hB.block b h2.lt), h3⟩
theorem isNone_no (w : World) (u : Value) (h : NoC w u) : Calls Try.prog 28 #[u] w fun e w' => e = .returned (.bool true) ∧ w = w' := by
  rcases h with rfl | ⟨b, cs, rfl, hA, h0⟩
  · go_enter Try.func28, Try.ntmps28
    go_wp2
    go_ret
    exact ⟨rfl, rfl⟩
  · have v0 := (hA.cell 0).trans h0
    clear hA h0
    go_enter Try.func28, Try.ntmps28
    go_wp2
    go_ret
    exact ⟨rfl, rfl⟩
theorem isNone_tab (w : World) (cb tb : Nat) (v0 : w.cell? ⟨cb, 0, none⟩ = some (.pointer (some ⟨tb, 0, none⟩))) : Calls Try.prog 28 #[.pointer (some ⟨cb, 0, none⟩)] w fun e w' => e = .returned (.bool false) ∧ w = w' := by
  go_enter Try.func28, Try.ntmps28
  go_wp2
  go_ret
  exact ⟨rfl, rfl⟩
section
variable {n cb rb : Nat} {w0 w : World} {G : Nat → Prop} {s : S} {v bk gn : Value} {last : ByteArray} {m : M}
theorem Mo.ptr (h : Mo w G v m) : ∃ tb, v = .pointer (some ⟨tb, 0, none⟩) := by
  obtain ⟨ps, ⟨b, A, k, c, rfl, _⟩, _⟩ := h.tab
  exact ⟨b, rfl⟩
/-- What the walks want of a buffer: where its table is, and its cells. -/
theorem Is.cells (h : Is n w G cb s v bk gn rb last) : ∃ tb, v = .pointer (some ⟨tb, 0, none⟩) ∧ w.cell? ⟨cb, 0, none⟩ = some (.pointer (some ⟨tb, 0, none⟩)) ∧ w.cell? ⟨cb, 1, none⟩ = some (.int .i64 s.m.c) ∧ w.cell? ⟨cb, 28, none⟩ = some bk ∧ w.cell? ⟨cb, 29, none⟩ = some gn ∧ w.cell? ⟨cb, 30, none⟩ = some (.pointer (some ⟨rb, 0, none⟩)) ∧ w.cell? ⟨cb, 31, none⟩ = some (.string last) ∧ w.cell? ⟨cb, 32, none⟩ = some (.bool s.dirty) := by
  obtain ⟨tb, rfl⟩ := h.mo.ptr
  exact ⟨tb, rfl, co_cells h.at_⟩
theorem isNone_is (h : Cr n w0 cb s G w) : Calls Try.prog 28 #[.pointer (some ⟨cb, 0, none⟩)] w fun e w' => e = .returned (.bool false) ∧ w = w' := by
  obtain ⟨v, bk, gn, rb, last, hi⟩ := h.is
  obtain ⟨tb, _, h0, _⟩ := hi.cells
  exact isNone_tab w cb tb h0
theorem n_is (h : Cr n w0 cb s G w) : Calls Try.prog 12 #[.pointer (some ⟨cb, 0, none⟩)] w fun e w' => e = .returned (.int .i64 (s.m.L.length : Nat)) ∧ w = w' := by
  have KN := Lib.hid (isNone_is h)
  obtain ⟨v, bk, gn, rb, last, hi⟩ := h.is
  obtain ⟨tb, rfl, c0, _⟩ := hi.cells
  obtain ⟨ps, ht, hp⟩ := hi.mo.tab
  have KL := len_is w _ _ ps ht
  rw [hp] at KL
  have KL := Lib.hid KL
  clear ht hp hi h
  go_enter Try.func12, Try.ntmps12
  go_wp2_with (first
    | (go_at_call 28; (with_reducible refine KN.out.mono ?_); rintro e w1 ⟨rfl, rfl⟩)
    | (go_at_call 29; (with_reducible refine KL.out.mono ?_); rintro e w2 ⟨rfl, rfl⟩))
  go_ret
  exact ⟨rfl, rfl⟩
theorem lines_is (h : Cr n w0 cb s G w) (a u : Int) (ha1 : -9223372036854775808 ≤ a) (ha2 : a ≤ 9223372036854775807) (hu1 : -9223372036854775808 ≤ u) (hu2 : u ≤ 9223372036854775807) :
    Calls Try.prog 14 #[.pointer (some ⟨cb, 0, none⟩), .int .i64 a, .int .i64 u] w fun e w' => ∃ x, e = .returned x ∧ Row w ((s.m.L.take u.toNat).drop (a - 1).toNat) x w' := by
  have KN := Lib.hid (isNone_is h)
  obtain ⟨v, bk, gn, rb, last, hi⟩ := h.is
  obtain ⟨tb, rfl, c0, _⟩ := hi.cells
  obtain ⟨ps, ht, hp⟩ := hi.mo.tab
  have KL := pce.lines_is w _ _ ps a u ha1 ha2 hu1 hu2 ht
  rw [hp] at KL
  have KL := Lib.hid KL
  clear ht hp hi h ha1 ha2 hu1 hu2
  go_enter Try.func14, Try.ntmps14
  go_wp2_with (first
    | (go_at_call 28; (with_reducible refine KN.out.mono ?_); rintro e w1 ⟨rfl, rfl⟩)
    | (go_at_call 32; (with_reducible refine KL.out.mono ?_); rintro e w2 ⟨x, rfl, hr⟩))
  go_ret
  exact ⟨x, rfl, hr⟩
theorem cur_is (h : Cr n w0 cb s G w) : Calls Try.prog 15 #[.pointer (some ⟨cb, 0, none⟩)] w fun e w' => e = .returned (.int .i64 s.m.c) ∧ w = w' := by
  have KN := Lib.hid (isNone_is h)
  obtain ⟨v, bk, gn, rb, last, hi⟩ := h.is
  obtain ⟨tb, rfl, c0, c1, _⟩ := hi.cells
  clear hi h c0
  go_enter Try.func15, Try.ntmps15
  go_wp2_with (first
    | (go_at_call 28; (with_reducible refine KN.out.mono ?_); rintro e w1 ⟨rfl, rfl⟩))
  go_ret
  exact ⟨rfl, rfl⟩
theorem dirty_is (h : Cr n w0 cb s G w) : Calls Try.prog 19 #[.pointer (some ⟨cb, 0, none⟩)] w fun e w' => e = .returned (.bool s.dirty) ∧ w = w' := by
  have KN := Lib.hid (isNone_is h)
  obtain ⟨v, bk, gn, rb, last, hi⟩ := h.is
  obtain ⟨tb, rfl, c0, c1, _, _, _, _, c32⟩ := hi.cells
  clear hi h c0 c1
  generalize s.dirty = d at *
  go_enter Try.func19, Try.ntmps19
  go_wp2_with (first
    | (go_at_call 28; (with_reducible refine KN.out.mono ?_); rintro e w1 ⟨rfl, rfl⟩))
  go_ret
  exact ⟨rfl, rfl⟩
end
end Go.Proofs.Ytdbeedhedjhamaa.cor
