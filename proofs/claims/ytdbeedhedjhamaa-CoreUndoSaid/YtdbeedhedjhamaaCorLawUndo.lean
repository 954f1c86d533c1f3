/- CoreUndo, walked. -/
import Derived.Test.YtdbeedhedjhamaaCorMade2
import Derived.Deep.Cut
import Derived.Test.YtdbeedhedjhamaaPceLawNone
/-! Core: what a View told, kept in a cell. -/
namespace Go.Proofs.Ytdbeedhedjhamaa.cor
open Go.RowKit Go.Lib pce sps mrk
set_option linter.unusedVariables false
set_option linter.unusedSimpArgs false
set_option linter.unnecessarySimpa false
set_option linter.unusedSectionVars false

section
variable {ops : Array Oper} {rest : List Oper} {op : Oper} {a : Act} {w : World} {Q : Exit → Act → World → Prop}
theorem wpList_loadMkW (hw : Region.wanted op (yielded ops a.tmps) = true) (x : Operand) (ho : op.op = .load 36 x) (b o : Nat) (hx : a.eval x = .pointer (some ⟨b, o, none⟩)) (f : Nat → Int) (hc : w.rangeAt b o (arrL f))
    (h : wpList Try.prog ops Q rest (a.put op.dst (.agg (arr f))) w) : wpList Try.prog ops Q (op :: rest) a w := by
  refine wpList_step fun K hK => ?_
  rw [if_pos hw]
  exact wp_loadV 36 x ho undA mrk.inf b o hx (arrL f) (arrL_len _) hc (hK _ _ h)
theorem wpList_eqMW (hw : Region.wanted op (yielded ops a.tmps) = true) (x y : Operand) (ty : TypeId) (ho : op.op = .binOp .eql 36 x y ty) (f : Nat → Int) (hx : a.eval x = .agg (arr f)) (hy : a.eval y = .agg (arr f))
    (h : wpList Try.prog ops Q rest (a.put op.dst (.bool true)) w) : wpList Try.prog ops Q (op :: rest) a w := by
  refine wpList_step fun K hK => ?_
  rw [if_pos hw]
  unfold Oper.wp execOp
  simp only [ho, hx, hy, Sem.run_bind, run_guardA, binOp, run_eqA, Sem.run_pure, Result.andThen_ok]
  exact hK _ _ h
end
/-- In block b lies what View told of m: the lines behind A. -/
structure Seen (w : World) (G : Nat → Prop) (b : Nat) (A : Option Addr) (c : Nat) (m : M) (last : ByteArray) : Prop where
  lay : Lay w G b 38 (viL (.slice A m.L.length c) m last).toArray
  lst : Lst w (fun b => ¬ G b) A m.L.length c m.L
section
variable {w w' : World} {G G' : Nat → Prop} {b c : Nat} {A : Option Addr} {m : M} {last : ByteArray}
theorem Seen.went (h : Seen w G b A c m last) (hW : Went G G' w w') : Seen w' G' b A c m last := ⟨h.lay.went hW, lst_went h.lst hW⟩
theorem Seen.below (h : Seen w G b A c m last) (hB : Below w.heap.size w w') : Seen w' G b A c m last := h.went (.of_below hB)
theorem Seen.c0 (h : Seen w G b A c m last) : w.cell? ⟨b, 0, none⟩ = some (.slice A m.L.length c) := (vi_cells h.lay.1).1
theorem Seen.c1 (h : Seen w G b A c m last) : w.cell? ⟨b, 1, none⟩ = some (.int .i64 m.c) := (vi_cells h.lay.1).2
theorem Seen.marks (h : Seen w G b A c m last) : w.rangeAt b 2 (arrL m.f) := vi_marks h.lay.1
end
/-- A View, told and laid down. -/
theorem seen_view {n cb : Nat} {w0 w w4 w5 w6 : World} {G : Nat → Prop} {s : S} {A : Option Addr} {k c : Nat} {last : ByteArray} (h : Cr n w0 cb s G w) (hL : Lst w4 (w.heap.size ≤ ·) A k c s.m.L) (hB4 : Below w.heap.size w w4)
    (hw5 : w4.alloc (.cells (viL (.slice none 0 0) zeroM ⟨#[]⟩).toArray 38) = w5) (hA6 : At w6 w4.heap.size 38 (viL (.slice A k c) s.m last).toArray) (hO6 : Only w4.heap.size w5 w6) :
    Seen w6 G w4.heap.size A c s.m last ∧ Below w.heap.size w w6 ∧ Cr n w0 cb s G w6 := by
  have hB5 : Below w4.heap.size w4 w5 := hw5 ▸ (Below.refl _ _).alloc (Nat.le_refl _) _
  have hB6 : Below w4.heap.size w4 w6 := hB5.trans (hO6.below (Nat.le_refl _))
  obtain rfl : k = s.m.L.length := hL.len
  have hs := hB4.size
  have hB : Below w.heap.size w w6 := hB4.trans (hB6.mono hs)
  refine ⟨⟨⟨hA6, fun hg => by have := (h.g _ hg).2; omega⟩, ?_⟩, hB, h.move hB⟩
  exact (hL.mono (F' := fun b => ¬ G b) (fun b hb _ hg => by have := (h.g b hg).2; omega)).below hB6
theorem Cr.fine {n cb : Nat} {w0 w : World} {G : Nat → Prop} {s : S} (h : Cr n w0 cb s G w) : Fine s.m.L := by
  obtain ⟨_, _, _, _, _, hi⟩ := h.is
  exact hi.mo.fine
theorem leads_few : ∀ (ts : List Ct) (L L' : List ByteArray), Leads L ts L' → ∀ t ∈ ts, t.ins.length ≤ 10000 := by
  intro ts
  induction ts with
  | nil => intro L L' h t ht; cases ht
  | cons u us ih =>
    intro L L' h t ht
    obtain ⟨h1, h2⟩ := h
    rw [runE_cons] at h1
    by_cases h0 : stp L u = 0
    · rw [if_neg (by simp [h0])] at h1
      rcases List.mem_cons.1 ht with rfl | ht
      · have := (stp_zero.1 h0).2.2.2.1.1
        omega
      · exact ih (nxt L u) (runL (nxt L u) us) ⟨h1, rfl⟩ t ht
    · rw [if_pos h0] at h1
      exact absurd h1 h0
/-- A change in which some splices were done. -/
def Chg (n : Nat) (w0 : World) (cb : Nat) (m0 : M) (k : Nat) (G : Nat → Prop) (w : World) : Prop :=
  ∃ m bk d ts, Cr n w0 cb ⟨m, bk, some (m0, ts), d⟩ G w ∧ Leads m0.L ts m.L ∧ (ts = [] → m = m0) ∧ ts.length ≤ k
theorem Chg.below {n cb k : Nat} {w0 w : World} {m0 : M} {G : Nat → Prop} (h : Chg n w0 cb m0 k G w) : Below n w0 w := by
  obtain ⟨_, _, _, _, h, _⟩ := h
  exact h.below
theorem Chg.next {n cb k : Nat} {w0 w : World} {m0 : M} {G : Nat → Prop} (h : Chg n w0 cb m0 k G w) (hk : k ≤ 1000) (t : Ct) (ht : CtOk w (· < n) t) (hb : t.ins.length ≤ 10000) :
    Calls Try.prog 21 #[.pointer (some ⟨cb, 0, none⟩), .agg #[.int .i64 t.a, .int .i64 t.d, .slice t.A t.ins.length t.c]] w fun e w' => (∃ v, e = .returned v) ∧ ∃ G', Chg n w0 cb m0 (k + 1) G' w' ∧ Went G G' w w' := by
  obtain ⟨m, bk, d, ts, h1, h2, h3, h4⟩ := h
  refine (splice_is h1 m0 ts rfl (by omega) t (· < n) _ rfl ht (fun b hb hg => by have := (h1.g b hg).1; omega) hb).mono ?_
  rintro e w' ⟨G', hW, rfl, ⟨_, hC⟩ | ⟨h0, A', c', hC⟩⟩
  · exact ⟨⟨_, rfl⟩, G', ⟨m, bk, d, ts, hC, h2, h3, by omega⟩, hW⟩
  · refine ⟨⟨_, rfl⟩, G', ⟨_, _, _, _, hC, ?_, fun he => by simp at he, by simp; omega⟩, hW⟩
    have e1 : stp m.L t = 0 := stpE_pce.2 h0
    have := leads_snoc (t := ⟨t.a, t.d, A', c', t.ins⟩) h2 (show stp m.L ⟨t.a, t.d, A', c', t.ins⟩ = 0 from e1)
    exact this
/-- What End told of a change. -/
theorem Chg.ends {n cb k : Nat} {w0 w : World} {m0 : M} {G : Nat → Prop} (h : Chg n w0 cb m0 k G w) (hk : k ≤ 1000) :
    Calls Try.prog 22 #[.pointer (some ⟨cb, 0, none⟩)] w fun e w' => ∃ G' A c ts m bk d, e = .returned (.slice A ts.length c) ∧ Went G G' w w' ∧ Cuts w' (fun b => ¬ G' b) A ts ∧ ts.length ≤ k ∧ Leads m0.L ts m.L ∧
      Cr n w0 cb ⟨m, bk, none, d⟩ G' w' ∧ ((ts = [] ∧ m = m0) ∨ (ts ≠ [] ∧ bk = some m0)) := by
  obtain ⟨m, bk, d, ts, h1, h2, h3, h4⟩ := h
  refine (end_is h1 m0 ts rfl (by omega)).mono ?_
  rintro e w' ⟨G', hW, ⟨rfl, rfl, hC⟩ | ⟨hne, A, c, rfl, _, hT, hC⟩⟩
  · exact ⟨G', none, 0, [], m, bk, d, rfl, hW, ⟨VRd.nil, fun t ht => by cases ht⟩, by simp, h2, hC, .inl ⟨rfl, h3 rfl⟩⟩
  · exact ⟨G', A, c, ts, m, _, _, rfl, hW, hT, h4, h2, hC, .inr ⟨hne, rfl⟩⟩
/-- Splices that lead from lines to lines: All tells these. -/
theorem all_leads {F : Nat → Prop} {w : World} {A : Option Addr} {c : Nat} {L L' : List ByteArray} {Bo : Option Addr} {c' : Nat} {ts : List Ct} (hf : Fine L) (hl : Leads L ts L') (hL : Lst w F A L.length c L) (hC : Cuts w F Bo ts) (hm : ts.length ≤ 1000) (hfew : ∀ t ∈ ts, t.ins.length ≤ 10000) :
    Calls Try.prog 26 #[.slice A L.length c, .slice Bo ts.length c'] w fun e w' => ∃ B k d, e = .returned (.tuple #[.slice B k d, .int .i64 0]) ∧ k = L'.length ∧ Lst w' (w.heap.size ≤ ·) B k d L' ∧ Below w.heap.size w w' := by
  have hk : allK L ts = 0 := by rw [allK_fine hf]; exact hl.1
  refine (all_is F A L.length c L Bo ts.length c' ts w 0 hk hL (by have := hf.1; omega) hC rfl (by omega) hfew).mono ?_
  rintro e w' ⟨hB, ⟨h0, _⟩ | ⟨_, B, k, d, rfl, hk2, ho⟩⟩
  · exact absurd rfl h0
  · rw [hl.2] at hk2 ho
    exact ⟨B, k, d, rfl, hk2, lst_own hk2 ho, hB⟩
end Go.Proofs.Ytdbeedhedjhamaa.cor

/-! CoreUndo, walked. -/
namespace Go.Proofs.Ytdbeedhedjhamaa.cor
open Go.RowKit Go.Lib pce sps mrk
set_option linter.unusedVariables false
set_option linter.unusedSimpArgs false
set_option linter.unnecessarySimpa false
set_option linter.unusedSectionVars false

theorem le10 {L : List ByteArray} (h : Fine L) : L.length ≤ 9223372036854775807 := by have := h.1; omega
set_option maxHeartbeats 16000000 in
set_option maxRecDepth 100000 in
theorem law_undo (A : Option Addr) (n c : Nat) (zs : List ByteArray) (B : Option Addr) (m c2 : Nat) (xs : List Ac) (D : Option Addr) (q c3 : Nat) (ts : List Ct) (w : World) (h : InL w A n c zs)
    (hm : m = xs.length) (hmb : m ≤ maxLen) (hX : Acs w (· < w.heap.size) B xs) (hq : q = ts.length) (hqb : q ≤ maxLen) (hC : Cuts w (· < w.heap.size) D ts) :
    Calls Try.prog 4 #[.slice A n c, .slice B m c2, .slice D q c3] w fun e w' => e = .returned (.bool true) ∧ Below w.heap.size w w' := by
  have KL := Lib.hid (lives_is w)
  have KB1 := Lib.hid (lgs.beyondLines_is w w.heap.size A n c zs 20 (by omega) h.lst.len h.few h.size h.lst.srd)
  have KB2 := Lib.hid (beyond_is w _ B m c2 xs 40 (by omega) hm hmb hX)
  have HI := Lib.hid h
  have HX := Lib.hid hX
  have HC := Lib.hid hC
  have HM := Lib.hid hm
  have HQ := Lib.hid hq
  unfold maxLen at hmb hqb
  clear h hm hX hC hq
  go_enter Try.func4, Try.ntmps4
  go_wp2_with fail
  go_at_call 23
  refine KB1.out.mono ?_
  rintro e w' ⟨rfl | ⟨rfl, hn20, _⟩, rfl⟩
  · go_wp2_with (go_at_call 6; (with_reducible refine KL.out.mono ?_); rintro e w3 ⟨rfl, hB⟩)
    go_ret
    exact ⟨rfl, hB⟩
  go_wp2_with fail
  go_at_call 5
  refine KB2.out.mono ?_
  rintro e w' ⟨rfl | ⟨rfl, hx40, hl20⟩, rfl⟩
  · go_wp2_with (go_at_call 6; (with_reducible refine KL.out.mono ?_); rintro e w3 ⟨rfl, hB⟩)
    go_ret
    exact ⟨rfl, hB⟩
  rw [← HM.out] at hx40
  have HL20 := Lib.hid hl20
  have hn20 : n ≤ 20 := by rw [HI.out.lst.len]; exact hn20
  clear hl20 KB1 KB2
  by_cases hq10 : 10 < q
  · go_wp2_with (go_at_call 6; (with_reducible refine KL.out.mono ?_); rintro e w3 ⟨rfl, hB⟩)
    go_ret
    exact ⟨rfl, hB⟩
  go_wp2_with fail
  go_loopg [7] q (fun g s7 wr => ∃ k : Nat, k ≤ q ∧ q - k ≤ g ∧ s7 = .int .i64 k ∧ wr = w ∧ Hid (∀ t ∈ ts.take k, t.ins.length ≤ 20))
  case atStart => exact ⟨0, Nat.zero_le _, by omega, rfl, rfl, Lib.hid fun t ht => by simp at ht⟩
  case round =>
    obtain ⟨k, hk, hg, rfl, hwr, HE⟩ := hrel
    have hwr := hwr.symm
    subst hwr
    by_cases hlt : k < q
    · have hkl : k < ts.length := by rw [← HQ.out]; exact hlt
      obtain ⟨t, ht⟩ : ∃ t, ts[k]? = some t := ⟨_, List.getElem?_eq_getElem hkl⟩
      have hok := HC.out.each t (List.mem_of_getElem? ht)
      obtain ⟨b, off, rfl, hcc⟩ := cut_cells HC.out ht
      obtain ⟨_, _, g2⟩ := hcc w (Below.refl _ _)
      have KB := Lib.hid (lgs.beyondLines_is w w.heap.size t.A t.ins.length t.c t.ins 20 (by omega) rfl hok.few hok.size hok.lst.srd)
      have HN : Hid (t.ins.length ≤ 20 → ∀ t' ∈ ts.take (k + 1), t'.ins.length ≤ 20) := Lib.hid fun hl t' ht' => by
        rw [List.take_succ_eq_append_getElem hkl, List.mem_append] at ht'
        rcases ht' with ht' | ht'
        · exact HE.out t' ht'
        · rw [List.mem_singleton.1 ht', (Option.some.inj ((List.getElem?_eq_getElem hkl).symm.trans ht))]; exact hl
      clear hcc hok ht hkl
      go_wp2_with fail
      go_at_call 23
      refine KB.out.mono ?_
      rintro e w' ⟨rfl | ⟨rfl, hl, _⟩, rfl⟩
      · go_wp2_with (go_at_call 6; (with_reducible refine KL.out.mono ?_); rintro e w3 ⟨rfl, hB⟩)
        go_ret
        exact ⟨rfl, hB⟩
      · have HI2 := Lib.hid (HN.out hl)
        clear hl HN
        go_wp2
        go_roundg (q - (k + 1))
        case measure => omega
        case rel => exact ⟨k + 1, by omega, by omega, by go_num, rfl, HI2⟩
    obtain rfl : k = q := by omega
    have HT20 : Hid (∀ t ∈ ts, t.ins.length ≤ 20) := Lib.hid fun t ht => HE.out t (by rw [HQ.out, List.take_length]; exact ht)
    clear HE hg hk hlt
    by_cases hf : Fine zs
    case neg =>
      have KM := Lib.hid (made_no w A n c zs B m c2 HI.out.lst.len (by omega) hf HI.out.lst.srd)
      go_wp2_with fail
      go_at_call 24
      refine KM.out.mono ?_
      rintro e w1 ⟨rfl, hB1⟩
      have KN := Lib.hid (new_bad w1 A n c zs HI.out.lst.len (by omega) hf (HI.out.lst.below hB1).srd)
      have HB1 := Lib.hid hB1
      clear hB1 KM
      go_wp2_with fail
      go_at_call 25
      refine KN.out.mono ?_
      rintro e w2 ⟨rfl, hB2⟩
      have KL2 := Lib.hid (lives_is w2)
      have HB2 := Lib.hid (HB1.out.trans (hB2.mono HB1.out.size))
      go_wp2_with (go_at_call 6; (with_reducible refine KL2.out.mono ?_); rintro e w3 ⟨rfl, hB⟩)
      go_ret
      exact ⟨rfl, HB2.out.trans (hB.mono HB2.out.size)⟩
    case pos =>
      have KM := Lib.hid (made_is w A n c zs B m c2 xs HI.out.lst.len (by omega) HI.out.lst.nil hf HI.out.lst.srd HM.out (by omega) HX.out HL20.out)
      clear KL HX HL20 HM HI hx40 hn20 hf
      go_wp2_with fail
      go_at_call 24
      refine KM.out.mono ?_
      rintro e w1 ⟨cb, rfl, s0, G0, hC0, hbg0⟩
      clear KM
      have HF0 := Lib.hid hC0.fine
      have KV := Lib.hid (view_is hC0)
      go_wp2_with fail
      go_at_call 8
      refine KV.out.mono ?_
      rintro e w2 ⟨A1, k1, d1, l1, rfl, hL2, hB2⟩
      clear KV
      obtain ⟨w3, hw3⟩ : ∃ w3, w2.alloc (.cells (viL (.slice none 0 0) zeroM ⟨#[]⟩).toArray 38) = w3 := ⟨_, rfl⟩
      have HA3 : Hid (At w3 w2.heap.size 38 (viL (.slice none 0 0) zeroM ⟨#[]⟩).toArray) := Lib.hid (hw3 ▸ At.new _ _ _)
      have hw3' := Lib.hid hw3
      have hC0 := Lib.hid hC0
      have hL2 := Lib.hid hL2
      have hB2 := Lib.hid hB2
      go_wp2_with (first
        | (refine wpList_allocV rfl 38 rfl _ (zerV _) ?_; rw [hw3]; clear hw3)
        | (refine wpList_storeM rfl 38 (.tmp 11) (.tmp 72) rfl w2.heap.size 38 [] (viL (.slice none 0 0) zeroM ⟨#[]⟩) [] (by rw [List.nil_append, List.append_nil]; exact HA3.out) (viL (.slice A1 k1 d1) s0.m l1) (by rw [vi_len, vi_len]) 0 rfl rfl rfl (by rw [vi_len]; exact infV) (vi_one rfl) ?_; intro w4 hA4 hO4; rw [List.nil_append, List.append_nil] at hA4)
        | fail "NONE")
      obtain ⟨hS4, _, hC4⟩ := seen_view hC0.out hL2.out hB2.out hw3'.out hA4 hO4
      clear hC0 hL2 hB2 hw3' hA4 hO4 HA3
      obtain ⟨b1, hb1⟩ : ∃ b1, w2.heap.size = b1 := ⟨_, rfl⟩
      rw [hb1] at hS4 ⊢
      clear hb1
      have KG := Lib.hid (begin_is hC4 hbg0)
      go_at_call 20
      refine KG.out.mono ?_
      rintro e w5 ⟨G1, rfl, hC5, hW5⟩
      have HS5 := Lib.hid (hS4.went hW5)
      have HG5 : Hid (Chg w.heap.size w cb s0.m 0 G1 w5) := Lib.hid ⟨s0.m, s0.back, s0.dirty, [], hC5, Leads.nil _, fun _ => rfl, Nat.le_refl 0⟩
      clear KG hS4 hC4 hC5 hW5
      go_wp2_with fail
      go_loopg [12] k (fun g s12 wr => ∃ (j : Nat) (G : Nat → Prop), j ≤ k ∧ k - j ≤ g ∧ s12 = .int .i64 j ∧ Hid (Chg w.heap.size w cb s0.m j G wr) ∧ Hid (Seen wr G b1 A1 d1 s0.m l1))
      case atStart => exact ⟨0, G1, Nat.zero_le _, by omega, rfl, HG5, HS5⟩
      case round =>
        obtain ⟨j, G, hj, hgj, rfl, HG, HS⟩ := hrel
        clear HG5 HS5
        by_cases hjk : j < k
        · have hkl : j < ts.length := by rw [← HQ.out]; exact hjk
          obtain ⟨t, ht⟩ : ∃ t, ts[j]? = some t := ⟨_, List.getElem?_eq_getElem hkl⟩
          have htm := List.mem_of_getElem? ht
          have hok := (HC.out.each t htm).keep (fun b hb _ => HG.out.below.block b hb) HG.out.below.size
          obtain ⟨b, off, rfl, hcc⟩ := cut_cells HC.out ht
          obtain ⟨g0, g1, g2⟩ := hcc wr HG.out.below
          have KS := Lib.hid (HG.out.next (by omega) t hok (Nat.le_trans (HT20.out t htm) (by decide)))
          clear hkl ht htm hok hcc
          go_wp2_with fail
          go_at_call 21
          refine KS.out.mono ?_
          rintro e w6 ⟨⟨v, rfl⟩, G', hG', hW'⟩
          have HG' := Lib.hid hG'
          have HS' := Lib.hid (HS.out.went hW')
          clear hG' hW' KS
          go_wp2
          go_roundg (k - (j + 1))
          case measure => omega
          case rel => exact ⟨j + 1, G', by omega, by omega, by go_num, HG', HS'⟩
        obtain rfl : j = k := by omega
        have KE := Lib.hid (HG.out.ends (by omega))
        go_wp2_with fail
        go_at_call 22
        refine KE.out.mono ?_
        rintro e w6 ⟨G6, A6, c6, us, m6, bk6, d6, rfl, hW6, hT6, hl6, hL6, hC6, hE6⟩
        have HS6 := Lib.hid (HS.out.went hW6)
        have HT6 := Lib.hid hT6
        have HL6 := Lib.hid hL6
        have HE6 := Lib.hid hE6
        have hl6 : us.length ≤ 10 := by omega
        clear KE HG HS hW6 hT6 hL6 hE6 HT20 HC HQ
        have KV := Lib.hid (view_is hC6)
        have HC6 := Lib.hid hC6
        clear hC6
        go_wp2_with fail
        go_at_call 8
        refine KV.out.mono ?_
        rintro e w7 ⟨A2, k2, d2, l2, rfl, hL7, hB7⟩
        clear KV
        obtain ⟨w8, hw8⟩ : ∃ w8, w7.alloc (.cells (viL (.slice none 0 0) zeroM ⟨#[]⟩).toArray 38) = w8 := ⟨_, rfl⟩
        have HA8 : Hid (At w8 w7.heap.size 38 (viL (.slice none 0 0) zeroM ⟨#[]⟩).toArray) := Lib.hid (hw8 ▸ At.new _ _ _)
        have hw8' := Lib.hid hw8
        have hL7 := Lib.hid hL7
        have hB7 := Lib.hid hB7
        go_wp2_with (first
          | (refine wpList_allocV rfl 38 rfl _ (zerV _) ?_; rw [hw8]; clear hw8)
          | (refine wpList_storeM rfl 38 (.tmp 14) (.tmp 91) rfl w7.heap.size 38 [] (viL (.slice none 0 0) zeroM ⟨#[]⟩) [] (by rw [List.nil_append, List.append_nil]; exact HA8.out) (viL (.slice A2 k2 d2) m6 l2) (by rw [vi_len, vi_len]) 0 rfl rfl rfl (by rw [vi_len]; exact infV) (vi_one rfl) ?_
             intro w9 hA9 hO9
             rw [List.nil_append, List.append_nil] at hA9
             obtain ⟨hSn, hBn, hCn⟩ := seen_view HC6.out hL7.out hB7.out hw8'.out hA9 hO9
             have HV2 := Lib.hid hSn
             have HC9 := Lib.hid hCn
             have HS9 := Lib.hid (HS6.out.below hBn)
             have HT9 := Lib.hid (cuts_went HT6.out (.of_below hBn))
             have c9 := HS9.out.c0
             have KA := Lib.hid (all_leads HF0.out HL6.out HS9.out.lst HT9.out (by omega) (leads_few _ _ _ HL6.out) (c' := c6))
             clear HS6 HT6
             clear hSn hBn hCn HC6 hL7 hB7 hw8' hA9 hO9 HA8
             obtain ⟨v2, hv2⟩ : ∃ v, w7.heap.size = v := ⟨_, rfl⟩
             rw [hv2] at HV2 ⊢
             clear hv2)
          | fail "NONE")
        go_at_call 26
        refine KA.out.mono ?_
        rintro e w10 ⟨B3, k3, d3, rfl, rfl, hL10, hB10⟩
        have HL10 := Lib.hid hL10
        have HS10 := Lib.hid (HS9.out.below hB10)
        have HV10 := Lib.hid (HV2.out.below hB10)
        have HC10 := Lib.hid (HC9.out.move hB10)
        have HT10 := Lib.hid (cuts_went HT9.out (.of_below hB10))
        have c10 := HV10.out.c0
        have KS := Lib.hid (lgs.same_lines B3 A2 d3 d2 _ m6.L.length m6.L.length m6.L w10 rfl rfl (le10 HC10.out.fine) hL10.srd HV10.out.lst.srd)
        clear hL10 hB10 KA HS9 HV2 HC9 HT9 c9
        go_wp2_with fail
        go_at_call 27
        refine KS.out.mono ?_
        rintro e w11 ⟨rfl, q11, rfl⟩
        have hB11 := below_drewN (Below.refl w10.heap.size w10) q11
        generalize w10.drewN q11 = w11 at *
        have HS11 := Lib.hid (HS10.out.below hB11)
        have HV11 := Lib.hid (HV10.out.below hB11)
        have HC11 := Lib.hid (HC10.out.move hB11)
        have HT11 := Lib.hid (cuts_went HT10.out (.of_below hB11))
        clear hB11 KS HS10 HV10 HC10 HT10 c10 HL10
        rcases HE6.out with ⟨rfl, rfl⟩ | ⟨hne, rfl⟩
        · have cS := HS11.out.c0
          have cV := HV11.out.c0
          have KS := Lib.hid (lgs.same_lines A1 A2 d1 d2 _ s0.m.L.length s0.m.L.length s0.m.L w11 rfl rfl (le10 HC11.out.fine) HS11.out.lst.srd HV11.out.lst.srd)
          go_wp2_with fail
          go_at_call 27
          refine KS.out.mono ?_
          rintro e w12 ⟨rfl, q12, rfl⟩
          have hB12 := below_drewN (Below.refl w11.heap.size w11) q12
          generalize w11.drewN q12 = w12 at *
          have HS12 := Lib.hid (HS11.out.below hB12)
          have HV12 := Lib.hid (HV11.out.below hB12)
          have HC12 := Lib.hid (HC11.out.move hB12)
          clear hB12 KS HS11 HV11 HC11 HT11 cS cV
          have mS := Lib.hid HS12.out.marks
          have mV := Lib.hid HV12.out.marks
          have KL := Lib.hid (lives_is w12)
          go_wp2_with (first
            | (refine wpList_loadMkW (by rfl) _ rfl b1 2 rfl _ mS.out ?_)
            | (refine wpList_loadMkW (by rfl) _ rfl v2 2 rfl _ mV.out ?_)
            | (refine wpList_eqMW (by rfl) _ _ _ rfl _ rfl rfl ?_)
            | (go_at_call 6; (with_reducible refine KL.out.mono ?_); rintro e w13 ⟨rfl, hB13⟩)
            | fail "NONE")
          go_ret
          exact ⟨rfl, HC12.out.below.trans (hB13.mono HC12.out.size)⟩
        · have hne0 : us.length ≠ 0 := fun h0 => hne (List.length_eq_zero_iff.1 h0)
          have KU := Lib.hid (undo_is HC11.out rfl s0.m rfl)
          go_wp2_with fail
          go_at_call 7
          refine KU.out.mono ?_
          rintro e w12 ⟨A7, B7, c7, rfl, hT12, hC12, hW12⟩
          have HT12 := Lib.hid hT12
          have HS12 := Lib.hid (HS11.out.went hW12)
          have HV12 := Lib.hid (HV11.out.went hW12)
          have HC12 := Lib.hid hC12
          clear hT12 hC12 hW12 HS11 HV11 HC11 HT11 KU
          have HC12 : Hid (Cr w.heap.size w cb ⟨s0.m, some m6, none, true⟩ G6 w12) := HC12
          have KV := Lib.hid (view_is HC12.out)
          go_wp2_with fail
          go_at_call 8
          refine KV.out.mono ?_
          rintro e w13 ⟨A3, k3, d3, l3, rfl, hL13, hB13⟩
          clear KV
          obtain ⟨w14, hw14⟩ : ∃ w14, w13.alloc (.cells (viL (.slice none 0 0) zeroM ⟨#[]⟩).toArray 38) = w14 := ⟨_, rfl⟩
          have HA14 : Hid (At w14 w13.heap.size 38 (viL (.slice none 0 0) zeroM ⟨#[]⟩).toArray) := Lib.hid (hw14 ▸ At.new _ _ _)
          have hw14' := Lib.hid hw14
          have hL13 := Lib.hid hL13
          have hB13 := Lib.hid hB13
          go_wp2_with (first
            | (refine wpList_allocV rfl 38 rfl _ (zerV _) ?_; rw [hw14]; clear hw14)
            | (refine wpList_storeM rfl 38 (.tmp 19) (.tmp 132) rfl w13.heap.size 38 [] (viL (.slice none 0 0) zeroM ⟨#[]⟩) [] (by rw [List.nil_append, List.append_nil]; exact HA14.out) (viL (.slice A3 k3 d3) s0.m l3) (by rw [vi_len, vi_len]) 0 rfl rfl rfl (by rw [vi_len]; exact infV) (vi_one rfl) ?_
               intro w15 hA15 hO15
               rw [List.nil_append, List.append_nil] at hA15
               obtain ⟨hSn, hBn, hCn⟩ := seen_view HC12.out hL13.out hB13.out hw14'.out hA15 hO15
               have HV3 := Lib.hid hSn
               have HC15 := Lib.hid hCn
               have HS15 := Lib.hid (HS12.out.below hBn)
               have HV15 := Lib.hid (HV12.out.below hBn)
               have HT15 := Lib.hid (cuts_went HT12.out (.of_below hBn))
               have KU := Lib.hid (undo_is hCn rfl m6 rfl)
               clear HS12 HV12 HT12
               clear hSn hBn hCn HC12 hL13 hB13 hw14' hA15 hO15 HA14
               obtain ⟨v3, hv3⟩ : ∃ v, w13.heap.size = v := ⟨_, rfl⟩
               rw [hv3] at HV3 ⊢
               clear hv3)
            | fail "NONE")
          go_at_call 7
          refine KU.out.mono ?_
          rintro e w16 ⟨A8, B8, c8, rfl, hT16, hC16, hW16⟩
          have HU16 := Lib.hid hT16
          have HT16 := Lib.hid (cuts_went HT15.out hW16)
          have HS16 := Lib.hid (HS15.out.went hW16)
          have HV16 := Lib.hid (HV15.out.went hW16)
          have HX16 := Lib.hid (HV3.out.went hW16)
          have HC16 := Lib.hid hC16
          clear hT16 hC16 hW16 HS15 HV15 HV3 HC15 HT15 KU
          have HC16 : Hid (Cr w.heap.size w cb ⟨m6, some s0.m, none, true⟩ G6 w16) := HC16
          have KV := Lib.hid (view_is HC16.out)
          go_wp2_with fail
          go_at_call 8
          refine KV.out.mono ?_
          rintro e w17 ⟨A4, k4, d4, l4, rfl, hL17, hB17⟩
          clear KV
          obtain ⟨w18, hw18⟩ : ∃ w18, w17.alloc (.cells (viL (.slice none 0 0) zeroM ⟨#[]⟩).toArray 38) = w18 := ⟨_, rfl⟩
          have HA18 : Hid (At w18 w17.heap.size 38 (viL (.slice none 0 0) zeroM ⟨#[]⟩).toArray) := Lib.hid (hw18 ▸ At.new _ _ _)
          have hw18' := Lib.hid hw18
          have hL17 := Lib.hid hL17
          have hB17 := Lib.hid hB17
          go_wp2_with (first
            | (refine wpList_allocV rfl 38 rfl _ (zerV _) ?_; rw [hw18]; clear hw18)
            | (refine wpList_storeM rfl 38 (.tmp 22) (.tmp 139) rfl w17.heap.size 38 [] (viL (.slice none 0 0) zeroM ⟨#[]⟩) [] (by rw [List.nil_append, List.append_nil]; exact HA18.out) (viL (.slice A4 k4 d4) m6 l4) (by rw [vi_len, vi_len]) 0 rfl rfl rfl (by rw [vi_len]; exact infV) (vi_one rfl) ?_
               intro w19 hA19 hO19
               rw [List.nil_append, List.append_nil] at hA19
               obtain ⟨hSn, hBn, hCn⟩ := seen_view HC16.out hL17.out hB17.out hw18'.out hA19 hO19
               have HV4 := Lib.hid hSn
               have HC19 := Lib.hid hCn
               have HS19 := Lib.hid (HS16.out.below hBn)
               have HV19 := Lib.hid (HV16.out.below hBn)
               have HX19 := Lib.hid (HX16.out.below hBn)
               have HT19 := Lib.hid (cuts_went HT16.out (.of_below hBn))
               have HU19 := Lib.hid (cuts_went HU16.out (.of_below hBn))
               have c0 := HV19.out.c0
               clear HS16 HV16 HX16 HT16 HU16
               clear hSn hBn hCn HC16 hL17 hB17 hw18' hA19 hO19 HA18
               obtain ⟨v4, hv4⟩ : ∃ v, w17.heap.size = v := ⟨_, rfl⟩
               rw [hv4] at HV4 ⊢
               clear hv4)
            | fail "NONE")
          have HY19 := HV4
          have HX19' := HX19
          clear HV4 c0
          have HL1 : Hid (Leads m6.L [over m6.L.length B7 c7 s0.m.L] s0.m.L) := Lib.hid (over_leads HC19.out.fine.1 HF0.out)
          have HL2 : Hid (Leads s0.m.L [over s0.m.L.length B8 c8 m6.L] m6.L) := Lib.hid (over_leads HF0.out.1 HC19.out.fine)
          have KA := Lib.hid (all_leads HC19.out.fine HL1.out HV19.out.lst HT19.out (by simp) (leads_few _ _ _ HL1.out) (c' := 1))
          go_at_call 26
          refine KA.out.mono ?_
          rintro e w20 ⟨Bx, kx, dx, rfl, rfl, hLx, hBn⟩
          have HLx20 := Lib.hid hLx
          have HU20 := Lib.hid (cuts_went HU19.out (.of_below hBn))
          have HS20 := Lib.hid (HS19.out.below hBn)
          have HV20 := Lib.hid (HV19.out.below hBn)
          have HX20 := Lib.hid (HX19.out.below hBn)
          have HY20 := Lib.hid (HY19.out.below hBn)
          have HC20 := Lib.hid (HC19.out.move hBn)
          clear HS19 HV19 HX19 HY19 HC19 hBn
          clear hLx KA HT19 HU19 HX19'
          have c0 := HX20.out.c0
          have KA := Lib.hid (all_leads HF0.out HL2.out HX20.out.lst HU20.out (by simp) (leads_few _ _ _ HL2.out) (c' := 1))
          go_wp2_with fail
          go_at_call 26
          refine KA.out.mono ?_
          rintro e w21 ⟨By, ky, dy, rfl, rfl, hLy, hBn⟩
          have HLx21 := Lib.hid (HLx20.out.below hBn)
          have HLy21 := Lib.hid hLy
          have HS21 := Lib.hid (HS20.out.below hBn)
          have HV21 := Lib.hid (HV20.out.below hBn)
          have HX21 := Lib.hid (HX20.out.below hBn)
          have HY21 := Lib.hid (HY20.out.below hBn)
          have HC21 := Lib.hid (HC20.out.move hBn)
          clear HS20 HV20 HX20 HY20 HC20 hBn
          clear hLy KA HU20 c0 HLx20
          go_upto_region 32 with fail
          go_step
          simp only [List.append_eq, List.cons_append, List.nil_append]
          have c0HS := HS21.out.c0
          have c1HS := HS21.out.c1
          have mHS := Lib.hid HS21.out.marks
          have c0HV := HV21.out.c0
          have c1HV := HV21.out.c1
          have mHV := Lib.hid HV21.out.marks
          have c0HX := HX21.out.c0
          have c1HX := HX21.out.c1
          have mHX := Lib.hid HX21.out.marks
          have c0HY := HY21.out.c0
          have c1HY := HY21.out.c1
          have mHY := Lib.hid HY21.out.marks
          have KS := Lib.hid (lgs.same_lines A3 A1 d3 d1 _ s0.m.L.length s0.m.L.length s0.m.L w21 rfl rfl (le10 HF0.out) HX21.out.lst.srd HS21.out.lst.srd)
          go_wp2_with (first
            | (refine wpList_loadMkW (by rfl) _ rfl b1 2 rfl _ mHS.out ?_)
            | (refine wpList_loadMkW (by rfl) _ rfl v2 2 rfl _ mHV.out ?_)
            | (refine wpList_loadMkW (by rfl) _ rfl v3 2 rfl _ mHX.out ?_)
            | (refine wpList_loadMkW (by rfl) _ rfl v4 2 rfl _ mHY.out ?_)
            | (refine wpList_eqMW (by rfl) _ _ _ rfl _ rfl rfl ?_)
            | fail "NONE")
          go_at_call 27
          refine KS.out.mono ?_
          rintro e w22 ⟨rfl, q22, rfl⟩
          have hBn := below_drewN (Below.refl w21.heap.size w21) q22
          generalize w21.drewN q22 = w22 at *
          have HS22 := Lib.hid (HS21.out.below hBn)
          have HV22 := Lib.hid (HV21.out.below hBn)
          have HX22 := Lib.hid (HX21.out.below hBn)
          have HY22 := Lib.hid (HY21.out.below hBn)
          have HC22 := Lib.hid (HC21.out.move hBn)
          have HLx22 := Lib.hid (HLx21.out.below hBn)
          have HLy22 := Lib.hid (HLy21.out.below hBn)
          clear HLx21 HLy21
          clear HS21 HV21 HX21 HY21 HC21 hBn
          clear KS
          clear c0HS c1HS mHS
          clear c0HV c1HV mHV
          clear c0HX c1HX mHX
          clear c0HY c1HY mHY
          have c0HS := HS22.out.c0
          have c1HS := HS22.out.c1
          have mHS := Lib.hid HS22.out.marks
          have c0HV := HV22.out.c0
          have c1HV := HV22.out.c1
          have mHV := Lib.hid HV22.out.marks
          have c0HX := HX22.out.c0
          have c1HX := HX22.out.c1
          have mHX := Lib.hid HX22.out.marks
          have c0HY := HY22.out.c0
          have c1HY := HY22.out.c1
          have mHY := Lib.hid HY22.out.marks
          have KS := Lib.hid (lgs.same_lines A4 A2 d4 d2 _ m6.L.length m6.L.length m6.L w22 rfl rfl (le10 HC22.out.fine) HY22.out.lst.srd HV22.out.lst.srd)
          go_wp2_with (first
            | (refine wpList_loadMkW (by rfl) _ rfl b1 2 rfl _ mHS.out ?_)
            | (refine wpList_loadMkW (by rfl) _ rfl v2 2 rfl _ mHV.out ?_)
            | (refine wpList_loadMkW (by rfl) _ rfl v3 2 rfl _ mHX.out ?_)
            | (refine wpList_loadMkW (by rfl) _ rfl v4 2 rfl _ mHY.out ?_)
            | (refine wpList_eqMW (by rfl) _ _ _ rfl _ rfl rfl ?_)
            | fail "NONE")
          go_at_call 27
          refine KS.out.mono ?_
          rintro e w23 ⟨rfl, q23, rfl⟩
          have hBn := below_drewN (Below.refl w22.heap.size w22) q23
          generalize w22.drewN q23 = w23 at *
          have HS23 := Lib.hid (HS22.out.below hBn)
          have HV23 := Lib.hid (HV22.out.below hBn)
          have HX23 := Lib.hid (HX22.out.below hBn)
          have HY23 := Lib.hid (HY22.out.below hBn)
          have HC23 := Lib.hid (HC22.out.move hBn)
          have HLx23 := Lib.hid (HLx22.out.below hBn)
          have HLy23 := Lib.hid (HLy22.out.below hBn)
          clear HLx22 HLy22
          clear HS22 HV22 HX22 HY22 HC22 hBn
          clear KS
          clear c0HS c1HS mHS
          clear c0HV c1HV mHV
          clear c0HX c1HX mHX
          clear c0HY c1HY mHY
          have c0HS := HS23.out.c0
          have c1HS := HS23.out.c1
          have mHS := Lib.hid HS23.out.marks
          have c0HV := HV23.out.c0
          have c1HV := HV23.out.c1
          have mHV := Lib.hid HV23.out.marks
          have c0HX := HX23.out.c0
          have c1HX := HX23.out.c1
          have mHX := Lib.hid HX23.out.marks
          have c0HY := HY23.out.c0
          have c1HY := HY23.out.c1
          have mHY := Lib.hid HY23.out.marks
          have KS := Lib.hid (lgs.same_lines Bx A3 dx d3 _ s0.m.L.length s0.m.L.length s0.m.L w23 rfl rfl (le10 HF0.out) HLx23.out.srd HX23.out.lst.srd)
          go_wp2_with (first
            | (refine wpList_loadMkW (by rfl) _ rfl b1 2 rfl _ mHS.out ?_)
            | (refine wpList_loadMkW (by rfl) _ rfl v2 2 rfl _ mHV.out ?_)
            | (refine wpList_loadMkW (by rfl) _ rfl v3 2 rfl _ mHX.out ?_)
            | (refine wpList_loadMkW (by rfl) _ rfl v4 2 rfl _ mHY.out ?_)
            | (refine wpList_eqMW (by rfl) _ _ _ rfl _ rfl rfl ?_)
            | fail "NONE")
          go_at_call 27
          refine KS.out.mono ?_
          rintro e w24 ⟨rfl, q24, rfl⟩
          have hBn := below_drewN (Below.refl w23.heap.size w23) q24
          generalize w23.drewN q24 = w24 at *
          have HS24 := Lib.hid (HS23.out.below hBn)
          have HV24 := Lib.hid (HV23.out.below hBn)
          have HX24 := Lib.hid (HX23.out.below hBn)
          have HY24 := Lib.hid (HY23.out.below hBn)
          have HC24 := Lib.hid (HC23.out.move hBn)
          have HLx24 := Lib.hid (HLx23.out.below hBn)
          have HLy24 := Lib.hid (HLy23.out.below hBn)
          clear HLx23 HLy23
          clear HS23 HV23 HX23 HY23 HC23 hBn
          clear KS
          clear c0HS c1HS mHS
          clear c0HV c1HV mHV
          clear c0HX c1HX mHX
          clear c0HY c1HY mHY
          have c0HS := HS24.out.c0
          have c1HS := HS24.out.c1
          have mHS := Lib.hid HS24.out.marks
          have c0HV := HV24.out.c0
          have c1HV := HV24.out.c1
          have mHV := Lib.hid HV24.out.marks
          have c0HX := HX24.out.c0
          have c1HX := HX24.out.c1
          have mHX := Lib.hid HX24.out.marks
          have c0HY := HY24.out.c0
          have c1HY := HY24.out.c1
          have mHY := Lib.hid HY24.out.marks
          have KS := Lib.hid (lgs.same_lines By A4 dy d4 _ m6.L.length m6.L.length m6.L w24 rfl rfl (le10 HC24.out.fine) HLy24.out.srd HY24.out.lst.srd)
          go_wp2_with (first
            | (refine wpList_loadMkW (by rfl) _ rfl b1 2 rfl _ mHS.out ?_)
            | (refine wpList_loadMkW (by rfl) _ rfl v2 2 rfl _ mHV.out ?_)
            | (refine wpList_loadMkW (by rfl) _ rfl v3 2 rfl _ mHX.out ?_)
            | (refine wpList_loadMkW (by rfl) _ rfl v4 2 rfl _ mHY.out ?_)
            | (refine wpList_eqMW (by rfl) _ _ _ rfl _ rfl rfl ?_)
            | fail "NONE")
          go_at_call 27
          refine KS.out.mono ?_
          rintro e w25 ⟨rfl, q25, rfl⟩
          have hBn := below_drewN (Below.refl w24.heap.size w24) q25
          generalize w24.drewN q25 = w25 at *
          have HS25 := Lib.hid (HS24.out.below hBn)
          have HV25 := Lib.hid (HV24.out.below hBn)
          have HX25 := Lib.hid (HX24.out.below hBn)
          have HY25 := Lib.hid (HY24.out.below hBn)
          have HC25 := Lib.hid (HC24.out.move hBn)
          have HLx25 := Lib.hid (HLx24.out.below hBn)
          have HLy25 := Lib.hid (HLy24.out.below hBn)
          clear HLx24 HLy24
          clear HS24 HV24 HX24 HY24 HC24 hBn
          clear KS
          clear c0HS c1HS mHS
          clear c0HV c1HV mHV
          clear c0HX c1HX mHX
          clear c0HY c1HY mHY
          have KL := Lib.hid (lives_is w25)
          go_wp2_with (go_at_call 6; (with_reducible refine KL.out.mono ?_); rintro e w26 ⟨rfl, hB26⟩)
          go_ret
          exact ⟨rfl, HC25.out.below.trans (hB26.mono HC25.out.size)⟩
end Go.Proofs.Ytdbeedhedjhamaa.cor
