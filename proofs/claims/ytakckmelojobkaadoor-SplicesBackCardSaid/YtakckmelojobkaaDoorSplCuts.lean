/- Splices: a list of splices that grows at its front. -/
import Derived.Test.YtakckmelojobkaaDoorSplLawAll
namespace Go.Proofs.YtakckmelojobkaaDoor.sps
open Go.RowKit Go.Lib pce
set_option linter.unusedVariables false
set_option linter.unusedSimpArgs false
set_option linter.unnecessarySimpa false
set_option linter.unusedSectionVars false

theorem infoS : (Tryd.prog.info? 24).map (fun i => (i.zero, i.size, i.bytes)) = some (some (.agg #[.int .i64 0, .int .i64 0, .slice none 0 0]), 3, 40) := by kernel_rfl
theorem one_flat (us : List Ct) : ∀ u ∈ flat us, u.oneCell' = true := by
  intro u hu
  obtain ⟨t, _, ht⟩ := List.mem_flatMap.1 hu
  simp only [Ct.cells, List.mem_cons, List.not_mem_nil, or_false] at ht
  rcases ht with rfl | rfl | rfl <;> rfl
theorem vrd_own3 {w : World} {base : Nat} {e : TypeId} {n c : Nat} {A : Option Addr} {vs : List Value} (h : w.ownsRow base e 3 (.slice A n c) n vs) : VRd w (fun _ => True) A vs := fun hn => by
  rcases h.2 with ⟨hv, h0⟩ | ⟨g, cap, cur, hv, hg, hh, _⟩
  · have := h.1; omega
  · injection hv with hA
    subst hA
    refine ⟨g, 0, rfl, trivial, At.lt hh, fun j u hj => ?_⟩
    have := h.cells (g := g) rfl j u hj
    rwa [Go.WideShapes.add_plain] at this
/-- The list behind one that is put ahead of it. -/
structure Front (w0 w' : World) (u : Ct) (us : List Ct) (B : Option Addr) (m c : Nat) : Prop where
  len : m = (u :: us).length
  nil : B = none → c = 0
  cuts : Cuts w' (fun _ => True) B (u :: us)
  below : Below w0.heap.size w0 w'
theorem ct_any {w : World} {F : Nat → Prop} {t : Ct} (h : CtOk w F t) : CtOk w (fun _ => True) t := ⟨h.a1, h.a2, h.d1, h.d2, h.lst.any, h.size, h.few⟩
theorem front_of {w0 w' : World} {F : Nat → Prop} {u : Ct} {us : List Ct} {A : Option Addr} {v : Value} {m : Nat} (hm : m = us.length + 1) (ho : w'.ownsRow w0.heap.size 24 3 v m (flat (u :: us))) (hB : Below w0.heap.size w0 w') (hC : Cuts w0 F A us) (hu : CtOk w0 F u) :
    ∃ B c, v = .slice B m c ∧ Front w0 w' u us B m c := by
  rcases ho.2 with ⟨rfl, h0⟩ | ⟨g, cap, cur, rfl, _, _, _⟩
  · omega
  · refine ⟨_, _, rfl, by rw [hm]; rfl, (fun h => (by cases h)), ⟨vrd_own3 ho, fun t ht => ?_⟩, hB⟩
    rcases List.mem_cons.1 ht with rfl | ht
    · exact ct_any (hu.keep (fun b _ hb => hB.block b hb) hB.size)
    · exact ct_any ((hC.each t ht).keep (fun b _ hb => hB.block b hb) hB.size)
section
variable {ops : Array Oper} {rest : List Oper} {o : Oper} {a : Act} {w : World} {Q : Exit → Act → World → Prop}
theorem wpList_front (hgd : o.guard = none) (s x : Operand) (ho : o.op = .call { callee := .builtin .append, args := #[s, x], argTypes := #[27, 27] }) (w0 : World) (F : Nat → Prop) (u : Ct) (hw : w = w0.alloc (.cells #[.int .i64 u.a, .int .i64 u.d, .slice u.A u.ins.length u.c] 24))
    (hs : a.eval s = .slice (some ⟨w0.heap.size, 0, none⟩) 1 1) (A : Option Addr) (n c : Nat) (us : List Ct) (hx : a.eval x = .slice A n c) (hn : n = us.length) (hA : A = none → c = 0) (hC : Cuts w0 F A us) (hu : CtOk w0 F u) (hb : n ≤ 1000)
    (h : ∀ B c' w', Front w0 w' u us B (n + 1) c' → wpList Tryd.prog ops Q rest (a.put o.dst (.slice B (n + 1) c')) w') : wpList Tryd.prog ops Q (o :: rest) a w := by
  subst hw
  obtain ⟨i0, hi, hz0, hz1, hz2⟩ := info_parts infoS
  have hB0 : Below w0.heap.size w0 (w0.alloc (.cells #[.int .i64 u.a, .int .i64 u.d, .slice u.A u.ins.length u.c] 24)) := (Below.refl _ _).alloc (Nat.le_refl _) _
  have hL0 := World.ownsRow_lit (base := w0.heap.size) (e := 24) (size := 3) w0 #[.int .i64 u.a, .int .i64 u.d, .slice u.A u.ins.length u.c] 1 (Nat.le_refl _) (by unfold maxLen; omega) rfl
  rcases A with _ | ad
  · obtain rfl : c = 0 := hA rfl
    obtain rfl : us = [] := by
      rcases Nat.eq_zero_or_pos us.length with h0 | h0
      · exact List.eq_nil_of_length_eq_zero h0
      · obtain ⟨_, _, e, _⟩ := hC.row (by rw [flat_length]; omega)
        cases e
    obtain rfl : n = 0 := hn
    obtain ⟨B, c', hv, hF⟩ := front_of (us := []) (u := u) (F := F) (A := none) (m := 0 + 1) rfl (by simpa [flat, Ct.cells] using hL0) hB0 hC hu
    injection hv with e1 e2 e3
    subst e1 e3
    exact wpList_append_own_none hgd s x 27 ho w0.heap.size 24 i0 3 Tryd.underlying27 hi _ 1 _ hs hL0 hx (h _ _ _ hF)
  · refine wpList_append_own _ hgd s x 27 ho w0.heap.size 24 i0 _ 3 40 Tryd.underlying27 hi hz0 hz1 hz2 rfl (by decide) _ 1 _ hs hL0 ad n c (flat us) hx (by rw [flat_length, hn]) (fun j v hj => ?_) (one_flat us) (by unfold maxLen; omega) (by omega) hB0.size (fun v' w' ho' hg _ => ?_)
    · have := VRd.cells (hC.row.below hB0) rfl j v hj
      exact this
    · have hB := hB0.grown hg (Below.size hB0) (fun j hj => (hL0.lt j hj).1)
      obtain ⟨B, c', rfl, hF⟩ := front_of (u := u) (us := us) (F := F) (A := some ad) (m := 1 + n) (by rw [hn, Nat.add_comm]) (by simpa [flat, Ct.cells] using ho') hB hC hu
      rw [Nat.add_comm] at hF ⊢
      exact h B c' w' hF
end
/-- The inverse, as a splice. -/
theorem InvSays.ct {w w' : World} {L : List ByteArray} {t : Ct} {m : Nat} {e : Ending} (h : InvSays w L t.a t.d m 0 e w') (hm : m = t.ins.length) (hf : Fine L) (ha : -9223372036854775808 ≤ t.a ∧ t.a ≤ 9223372036854775807) (hb : m ≤ 1000000) :
    ∃ u : Ct, e = .returned (.tuple #[.agg #[.int .i64 u.a, .int .i64 u.d, .slice u.A u.ins.length u.c], .int .i64 0]) ∧ u.a = t.a ∧ u.d = t.ins.length ∧ u.ins = gone L t.a.toNat t.d.toNat ∧ CtOk w' (fun _ => True) u ∧ Below w.heap.size w w' := by
  rcases h with ⟨h0, _⟩ | ⟨_, B, n, c, rfl, B', n', c', hv, hn, ho, hB⟩
  · exact absurd rfl h0
  · injection hv with e1 e2 e3
    subst e1 e2 e3
    have hL := (lst_own hn ho).any
    have hg := gone_fine hf t.a.toNat t.d.toNat
    refine ⟨⟨t.a, m, B, c, gone L t.a.toNat t.d.toNat⟩, by rw [← hn], rfl, by rw [← hm], rfl, ⟨ha.1, ha.2, by show (-9223372036854775808 : Int) ≤ (m : Int); omega, by show (m : Int) ≤ 9223372036854775807; omega, by rw [← hn]; exact hL, fine_max hg, ?_⟩, hB⟩
    have := hg.1
    show (gone L t.a.toNat t.d.toNat).length ≤ maxLen
    unfold maxLen; omega
theorem InvSays.res0 {w w' : World} {L : List ByteArray} {a d : Int} {m : Nat} {k : Int} {e : Ending} (h : InvSays w L a d m k e w') (hk : ¬ k = 0) : e = .returned (.tuple #[.agg #[.int .i64 0, .int .i64 0, .slice none 0 0], .int .i64 k]) ∧ Below w.heap.size w w' := by
  rcases h with ⟨_, h1, h2⟩ | ⟨h0, _⟩
  · exact ⟨h1, h2⟩
  · exact absurd h0 hk
end Go.Proofs.YtakckmelojobkaaDoor.sps
