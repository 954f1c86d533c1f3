/- Templates: Parse. -/
import Derived.Test.YtibflbepnlemmaaTplFirst
import Derived.RangeFuncBox
import Derived.Deep.AppendLies
namespace Go.Proofs.Ytibflbepnlemmaa.tpl
open Go.RowKit Go.Lib
set_option linter.unusedVariables false
set_option linter.unusedSimpArgs false
set_option linter.unnecessarySimpa false
set_option linter.unusedSectionVars false

theorem info_parts {t : TypeId} {z : Value} {s b : Nat} (h : (Try.prog.info? t).map (fun i => (i.zero, i.size, i.bytes)) = some (some z, s, b)) : ∃ i, Try.prog.info? t = some i ∧ i.zero = some z ∧ i.size = s ∧ i.bytes = b := by
  cases hi : Try.prog.info? t with
  | none => simp [hi] at h
  | some i =>
    simp only [hi, Option.map_some, Option.some.injEq, Prod.mk.injEq] at h
    exact ⟨i, rfl, h.1, h.2.1, h.2.2⟩
theorem info45 : (Try.prog.info? 45).map (fun i => (i.zero, i.size, i.bytes)) = some (some .nilIface, 1, 16) := by kernel_rfl
theorem cell_one_new (w : World) (v : Value) (t : TypeId) : ∀ j u, [v][j]? = some u → (w.alloc (.cells #[v] t)).cell? ((⟨w.heap.size, 0, none⟩ : Addr).add j) = some u := by
  intro j u hj
  match j, hj with
  | 0, hj =>
    have : u = v := by simpa using hj.symm
    subst this
    rw [Go.WideShapes.add_plain]
    exact (At.new w t #[u]).cell 0
  | j + 1, hj => simp at hj
theorem pcV_one (p : Pc) : ∀ u ∈ [pcV p], u.oneCell' = true := by
  intro u hu
  rw [List.mem_singleton.1 hu]
  cases p <;> rfl

theorem own_same {w w' : World} {base : Nat} {e : TypeId} {size n : Nat} {v : Value} {xs : List Value} (h : w.ownsRow base e size v n xs) (hb : ∀ b, v.ownBlock = some b → w'.heap[b]? = w.heap[b]?) : w'.ownsRow base e size v n xs := by
  refine ⟨h.1, ?_⟩
  rcases h.2 with h0 | ⟨g, cap, cur, rfl, hg, hh, r⟩
  · exact .inl h0
  · exact .inr ⟨g, cap, cur, rfl, hg, (hb g rfl).trans hh, r⟩
theorem own_keep {w w' : World} {base : Nat} {e : TypeId} {size n : Nat} {v : Value} {xs : List Value} (h : w.ownsRow base e size v n xs) (hB : Below w.heap.size w w') : w'.ownsRow base e size v n xs :=
  own_same h fun b hb => hB.block b (h.lt b hb).2
theorem boxed_keep {w w' : World} {b : Nat} {t : TypeId} {v : Value} (h : Boxed w b t v) (hB : Below w.heap.size w w') : Boxed w' b t v := (hB.block b h.lt).trans h
theorem own_slice {w : World} {base : Nat} {e : TypeId} {size n : Nat} {v : Value} {xs : List Value} (h : w.ownsRow base e size v n xs) : ∃ A m c, v = .slice A m c := by
  rcases h.2 with ⟨rfl, _⟩ | ⟨g, cap, _, rfl, _⟩
  · exact ⟨_, _, _, rfl⟩
  · exact ⟨_, _, _, rfl⟩

structure Inv (l l' : List UInt8) (ps : List Pc) : Prop where
  ok : ok l = ok l'
  ex : ∀ S, ex S l = exP S ps ++ ex S l'
  mo : mo l = max (moP ps) (mo l')
  len : ps.length + l'.length ≤ l.length
  pcs : ∀ p ∈ ps, PcOk p
theorem Inv.start (l : List UInt8) : Inv l l [] := ⟨rfl, fun S => rfl, by simp [moP], by simp, fun p h => by simp at h⟩
theorem Inv.step {l l' r : List UInt8} {ps : List Pc} {p : Pc} (h : Inv l l' ps) (hf : fst1 l' = some (p, r)) (hl : l'.length ≤ 1000000) : Inv l r (ps ++ [p]) := by
  obtain ⟨h1, h2, h3, h4, h5⟩ := fst1_some hf hl
  refine ⟨h.ok.trans h1, fun S => ?_, ?_, ?_, ?_⟩
  · rw [h.ex S, h3 S, exP_snoc, List.append_assoc]
  · rw [h.mo, h2, moP_snoc, Nat.max_assoc]
  · have := h.len; simp; omega
  · intro q hq
    rcases List.mem_append.1 hq with hq | hq
    · exact h.pcs q hq
    · rw [List.mem_singleton.1 hq]; exact h5

/-- What Parse answers. -/
def ParseSays (l : List UInt8) (e : Ending) (w' : World) : Prop :=
  (ok l = true → ∃ v ps, e = .returned (.tuple #[v, .int .i64 0]) ∧ Tp w' v ps ∧ (∀ S, exP S ps = ex S l) ∧ moP ps = mo l ∧ ps.length ≤ l.length) ∧ (ok l = false → e = .returned (.tuple #[.pointer none, .int .i64 110]))

set_option maxHeartbeats 2000000 in
set_option maxRecDepth 100000 in
theorem parse_is (l : List UInt8) (w : World) (hl : l.length ≤ 100000) :
    Calls Try.prog 9 #[.string (B l)] w fun e w' => ParseSays l e w' ∧ Below w.heap.size w w' := by
  obtain ⟨i0, hi0, hz0, hz1, hz2⟩ := info_parts info45
  obtain ⟨m, hm⟩ : ∃ m, l.length = m := ⟨_, rfl⟩
  have HM := Lib.hid hm
  rw [hm] at hl
  clear hm
  go_enter Try.func9, Try.ntmps9
  go_wp2
  go_loopg [0, 5, 6, 7] m (fun g s0 _ _ _ wr => ∃ (l' : List UInt8) (ps : List Pc) (v : Value), s0 = .string (B l') ∧ l'.length ≤ g ∧ Hid (Inv l l' ps ∧ Boxed wr w.heap.size 37 v ∧ wr.ownsRow w.heap.size 45 1 v ps.length (ps.map pcV) ∧ Below w.heap.size w wr))
  case atStart => exact ⟨l, [], .slice none 0 0, rfl, by rw [HM.out]; exact Nat.le_refl _, Lib.hid ⟨Inv.start l, Boxed.new w _ _, World.ownsRow_nil _ _ _ _, (Below.refl _ _).alloc (Nat.le_refl _) _⟩⟩
  case round =>
    obtain ⟨l', ps, v, rfl, hg, HI⟩ := hrel
    match l', hg, HI with
    | [], hg, HI =>
      go_wp2
      go_ret2
      refine ⟨⟨fun _ => ⟨_, ps, rfl, ?_, ?_, ?_, ?_⟩, fun h => ?_⟩, HI.out.2.2.2⟩
      · obtain ⟨A, n, c, rfl⟩ := own_slice HI.out.2.2.1
        have hn : n = ps.length := by
          rcases HI.out.2.2.1.2 with ⟨hv, h0⟩ | ⟨g', cap, cur, hv, _⟩
          · injection hv with e1 e2 e3; have := HI.out.2.2.1.1; omega
          · injection hv
        subst hn
        exact ⟨_, A, c, rfl, HI.out.2.1, VRd.of_own HI.out.2.2.1, HI.out.1.pcs⟩
      · intro S; have := HI.out.1.ex S; simpa [ex] using this.symm
      · have := HI.out.1.mo; simpa [mo] using this.symm
      · have := HI.out.1.len; simpa using this
      · have := HI.out.1.ok; rw [h] at this; simp [ok] at this
    | a :: r, hg, HI =>
      have hle : (a :: r).length ≤ 1000000 := by have := HI.out.1.len; have := HM.out; omega
      have C := Lib.hid (first_is a r wr hle)
      have q1 : (a :: r == ([] : List UInt8)) = false := rfl
      have q0 : ¬ (a :: r) = [] := by simp
      cases hf : fst1 (a :: r) with
      | none =>
        rw [hf] at C
        have hno := Lib.hid (fst1_none hf q0)
        clear hf
        go_wp2_with fail
        go_at_call 16
        refine C.out.mono ?_
        rintro e w2 ⟨he, hb2⟩
        simp only [FstSays] at he
        subst he
        have HB := Lib.hid hb2
        clear hb2
        go_wp2
        go_ret2
        exact ⟨⟨(fun h => by rw [HI.out.1.ok, hno.out] at h; cases h), fun _ => rfl⟩, HI.out.2.2.2.trans (HB.out.mono HI.out.2.2.2.size)⟩
      | some x =>
        obtain ⟨p, r'⟩ := x
        rw [hf] at C
        have hlt := (fst1_some hf hle).2.2.2.1
        have HN := Lib.hid (HI.out.1.step hf hle)
        obtain ⟨pt, pu, hpv⟩ : ∃ t u, pcV p = .iface t u := by cases p <;> exact ⟨_, _, rfl⟩
        have HPV := Lib.hid hpv
        have hone := pcV_one p
        simp only [FstSays, hpv] at C
        rw [hpv] at hone
        have HONE := Lib.hid hone
        clear hone hpv
        have hlen := HI.out.1.len
        have hme : m = l.length := HM.out.symm
        clear hf
        go_wp2_with fail
        go_at_call 16
        refine C.out.mono ?_
        rintro e w2 ⟨rfl, hb2⟩
        obtain ⟨A, n, c, rfl⟩ := own_slice HI.out.2.2.1
        have hv := boxed_keep HI.out.2.1 hb2
        have hrow := own_keep HI.out.2.2.1 hb2
        have hbel := HI.out.2.2.2.trans (hb2.mono HI.out.2.2.2.size)
        have hsz := hbel.size
        have hc := hv.cell
        have hpl : ps.length ≤ 100000 := by omega
        have HR := Lib.hid hrow
        have HV := Lib.hid hv
        have HBL := Lib.hid hbel
        have HS := Lib.hid hsz
        have HX := Lib.hid (And.intro hlt hg)
        clear hb2 hrow hv hbel hsz hlen hme hlt hg q0 hle
        go_wp2_with (at_builtin; refine wpList_append_own _ rfl (.tmp 23) (.tmp 25) 35 rfl w.heap.size 45 i0 .nilIface 1 16 Try.underlying35 hi0 hz0 hz1 hz2 rfl (by decide) _ _ _ rfl (HR.out.alloc _) ⟨w2.heap.size, 0, none⟩ 1 1 [.iface pt pu] rfl rfl (cell_one_new _ _ _) HONE.out (by unfold maxLen; omega) (by omega) (by have := HS.out; simp; omega) ?_; intro v3 w3 hown3 hgrow3 _; obtain ⟨A3, n3, c3, rfl⟩ := own_slice hown3; obtain ⟨hv1, hv2, hr2, _, hb3⟩ := HV.out.appended (by decide) HR.out HS.out (Nat.le_refl _) hown3 hgrow3; have hc1 := hv1.cell; have hf1 := hv1.frozen; have HE := Lib.hid (And.intro hv2 (And.intro hr2 hb3)); clear hv1 hv2 hr2 hb3 hown3 hgrow3)
        go_roundg r'.length
        case measure => have := HX.out; omega
        case rel =>
          refine ⟨r', ps ++ [p], .slice A3 n3 c3, rfl, Nat.le_refl _, Lib.hid ⟨HN.out, HE.out.1, ?_, HBL.out.trans HE.out.2.2⟩⟩
          have := HE.out.2.1
          rw [← HPV.out] at this
          simpa using this
end Go.Proofs.Ytibflbepnlemmaa.tpl
