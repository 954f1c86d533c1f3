/- Terminals: the document's line's end in the last row: all rows go up. -/
import Derived.Test.YteekihhngjbjgaaVttRefPlain
import Derived.Test.YteekihhngjbjgaaGrdClone
import Derived.Test.YteekihhngjbjgaaVttErase
import Derived.StillTailTactics
namespace Go.Proofs.Yteekihhngjbjgaa.vtt
open Go.RowKit Go.Lib Go.Proofs.Yteekihhngjbjgaa.grd
set_option linter.unusedVariables false
set_option linter.unusedSimpArgs false
set_option linter.unnecessarySimpa false
set_option linter.unusedSectionVars false

theorem scroll_at {m n i : Nat} {ls : List (List UInt8)} {l : List UInt8} (hn : n = ls.length) (h0 : 0 < n) (h : (scroll m ls)[i]? = some l) : i < n ∧ (i + 1 < n → ls[i + 1]? = some l) ∧ (¬ i + 1 < n → l = blankRow m) := by
  have hi : i < n := by have := (List.getElem?_eq_some_iff.1 h).1; rw [scroll_len hn.symm h0] at this; exact this
  unfold scroll at h
  refine ⟨hi, fun h1 => ?_, fun h1 => ?_⟩
  · rw [List.getElem?_append_left (by rw [List.length_tail]; omega), List.getElem?_tail] at h; exact h
  · rw [List.getElem?_append_right (by rw [List.length_tail]; omega)] at h
    have : i - ls.tail.length = 0 := by rw [List.length_tail]; omega
    rw [this] at h
    exact (by simpa using h.symm)
theorem Own.over {w : World} {lo n c m : Nat} {A : Option Addr} {ls : List (List UInt8)} (H : Own w lo w.heap.size A n c ls) (hw : ∀ l ∈ ls, l.length = m) (hm : 0 < m) (hn : 0 < n) :
    ∃ hb hs, A = some ⟨hb, 0, none⟩ ∧ lo ≤ hb ∧ hb < w.heap.size ∧ At w hb 39 hs ∧ (∀ i, i < n → ∃ b d, hs[i]? = some (.slice (some ⟨b, 0, none⟩) m d)) ∧
      ∀ (w1 : World) (g g2 c2 d2 : Nat) (cs hs2 : Array Value), Below w.heap.size w w1 → w.heap.size ≤ g → At w1 g 5 cs → (∀ j, j < m → cs[j]? = some (.int .u8 32)) → w.heap.size ≤ g2 → At w1 g2 39 hs2 → (∀ i, i + 1 < n → hs2[i]? = hs[i + 1]?) → hs2[n - 1]? = some (.slice (some ⟨g, 0, none⟩) m d2) → n ≤ c2 → Own w1 lo w1.heap.size (some ⟨g2, 0, none⟩) n c2 (scroll m ls) := by
  obtain ⟨h1, h2, h0, hh, hs, f, h3, h4, h5⟩ := H
  obtain ⟨a1, a2, a3, a4⟩ := h3 hn
  refine ⟨hh, hs, a1, a2, a3, a4, fun i hi => ?_, fun w1 g g2 c2 d2 cs hs2 hB hg hA hc hg2 hA2 hr hl hc2 => ?_⟩
  · have hi' : ls[i]? = some (ls[i]'(by omega)) := List.getElem?_eq_getElem _
    obtain ⟨B', d, b1, b2, b3⟩ := h4 i _ hi'
    have hlm := hw _ (List.mem_of_getElem? hi')
    obtain ⟨rfl, _⟩ := b3 (by omega)
    rw [hlm] at b1
    exact ⟨_, _, b1⟩
  · have hz := hB.size
    refine ⟨(scroll_len h1.symm hn).symm, (fun e => (by cases e)), hc2, g2, hs2, fun i => if i + 1 < n then f (i + 1) else g, fun _ => ⟨rfl, by omega, hA2.lt, hA2⟩, fun i l hil => ?_, fun i j l l' e1 e2 p1 p2 e => ?_⟩
    · obtain ⟨s1, s2, s3⟩ := scroll_at h1 hn hil
      by_cases hi1 : i + 1 < n
      · obtain ⟨B', d, b1, b2, b3⟩ := h4 (i + 1) l (s2 hi1)
        refine ⟨B', d, (hr i hi1).trans b1, b2, fun hp => ?_⟩
        obtain ⟨c1, c2', c3, c4, cs', c5, c6⟩ := b3 hp
        dsimp only
        rw [if_pos hi1]
        exact ⟨c1, by omega, c3, by omega, cs', c5.keep hB c4, c6⟩
      · have hlb := s3 hi1
        have hin : n - 1 = i := by omega
        rw [hin] at hl
        have hll : l.length = m := by rw [hlb]; simp [blankRow]
        rw [hll]
        refine ⟨_, d2, hl, (fun e => (by cases e)), fun hp => ?_⟩
        dsimp only
        rw [if_neg hi1]
        refine ⟨rfl, At.ne_type hA hA2 (Ne.symm (by decide)), by omega, hA.lt, cs, hA, fun j u hj => ?_⟩
        have hjm : j < m := by have := (List.getElem?_eq_some_iff.1 hj).1; simpa [hll] using this
        rw [hlb] at hj
        unfold blankRow at hj
        rw [List.map_replicate, List.getElem?_replicate, if_pos hjm] at hj
        rw [hc j hjm, ← hj]; rfl
    · obtain ⟨s1, s2, s3⟩ := scroll_at h1 hn e1
      obtain ⟨t1, t2, t3⟩ := scroll_at h1 hn e2
      dsimp only at e
      have q : ∀ i l, ls[i]? = some l → 0 < l.length → f i < w.heap.size := fun i l hl hp => by
        obtain ⟨_, _, _, _, b3⟩ := h4 i l hl
        exact (b3 hp).2.2.2.1
      by_cases hi1 : i + 1 < n
      · rw [if_pos hi1] at e
        by_cases hj1 : j + 1 < n
        · rw [if_pos hj1] at e
          have := h5 (i + 1) (j + 1) l l' (s2 hi1) (t2 hj1) p1 p2 e
          omega
        · rw [if_neg hj1] at e
          have := q _ _ (s2 hi1) p1
          omega
      · rw [if_neg hi1] at e
        by_cases hj1 : j + 1 < n
        · rw [if_pos hj1] at e
          have := q _ _ (t2 hj1) p2
          omega
        · omega
set_option maxHeartbeats 4000000 in
set_option maxRecDepth 100000 in
theorem refplain_scroll (lo rb N : Nat) (s : Ts) (hl : ¬ s.r + 1 < s.n) (w : World) (H : Rt w lo rb N s) :
    Calls Try.prog 42 #[.pointer (some ⟨rb, 0, none⟩), .int .u8 10] w fun e w' => e = .returned (.tuple #[]) ∧ Rent lo rb N { s with ls := scroll s.m s.ls } w w' := by
  obtain ⟨A, c, q, H⟩ := H
  obtain ⟨n, m, ls, r, k, esc, pm⟩ := s
  obtain ⟨i0, hi0, hz0, hz1, hz2'⟩ := info_parts info32
  obtain ⟨j0, hj0, hy0, hy1, hy2⟩ := info_parts info5
  have hml : (1000000 : Nat) ≤ maxLen := by unfold maxLen; omega
  have hcu := H.ok.cur
  have hz := H.ok.size
  dsimp only at hcu hz hl
  obtain ⟨n1, rfl⟩ : ∃ n1, n = n1 + 1 := ⟨n - 1, by omega⟩
  obtain ⟨hb, hs, rfl, o1, o2, o3, o4, o5⟩ := Own.over H.own (fun l h => (H.ok.row l h).1) (by dsimp only; omega) (by dsimp only; omega)
  have hc1 := H.own.fits
  dsimp only at hc1 o4 o5
  have hrn : r = n1 := by omega
  subst hrn
  have HH := Lib.hid H
  have HO5 := Lib.hid o5
  have f3 := H.frozen 3
  obtain ⟨a0, a1, a2, a3, _⟩ := H.seven
  dsimp only at a0 a1 a2 a3
  have a0 : w.cell? ⟨rb, 0, none⟩ = some (.int .i64 ((r : Int) + 1)) := a0
  have hwn : IntKind.i64.wrap ((r : Int) + 1 - 1) = (r : Int) := by rw [IntKind.wrap_i64]; omega
  have hr0 : IntKind.i64.wrap (r : Int) = (r : Int) := by rw [IntKind.wrap_i64]; omega
  have e3 : decide ((r : Int) < (r : Int)) = false := by simp
  have hT : ∀ W, (Instr.slice 32 (.slice (some ⟨hb, 0, none⟩) (r + 1) c) (some (.int .i64 1)) none none).run Try.prog W = .ok (.slice (some ⟨hb, 1, none⟩) r (c - 1)) W := fun W => by
    have := tail_rows (some ⟨hb, 0, none⟩) (r + 1) c 1 r (by omega) W
    rw [show tailA (some ⟨hb, 0, none⟩) c 1 = some ⟨hb, 1, none⟩ by unfold tailA; rw [if_neg (by omega)]; simp [Addr.add]] at this
    exact this
  obtain ⟨news, hnews⟩ : ∃ news, news = (List.range r).map fun i => hs.getD (i + 1) undef := ⟨_, rfl⟩
  have hnl : news.length = r := by rw [hnews]; simp
  have hng : ∀ j, j < r → ∃ b d, news[j]? = some (.slice (some ⟨b, 0, none⟩) m d) ∧ hs[j + 1]? = some (.slice (some ⟨b, 0, none⟩) m d) := fun j hj => by
    obtain ⟨b, d, h⟩ := o4 (j + 1) (by omega)
    refine ⟨b, d, ?_, h⟩
    rw [hnews, List.getElem?_map, List.getElem?_range hj, Option.map_some, Array.getD_eq_getD_getElem?, h]; rfl
  have HNG := Lib.hid hng
  have HNL := Lib.hid hnl
  have HHB := Lib.hid o3
  have hrb : rb < w.heap.size := H.blk.lt
  have HV : Hid (∀ p, Rv (w.drewN p) lo rb N ⟨r + 1, m, ls, r, k, esc, pm⟩ (some ⟨hb, 0, none⟩) c q) := Lib.hid fun p => H.same rfl
  clear H o3 o4 o5 hl hnews hng hnl
  go_enter Try.func42, Try.ntmps42
  go_wp2_with fail
  go_quiet (fail)
  have HV2 := Lib.hid (HV.out nq)
  have HHB2 := Lib.hid (HHB.out.same (w' := w.drewN nq) rfl)
  have HB2 : Hid (Below lo w (w.drewN nq)) := Lib.hid (below_drewN (Below.refl _ w) nq)
  have HO2 : Hid (∀ (w1 : World) (g g2 c2 d2 : Nat) (cs hs2 : Array Value), Below (w.drewN nq).heap.size (w.drewN nq) w1 → (w.drewN nq).heap.size ≤ g → At w1 g 5 cs → (∀ j, j < m → cs[j]? = some (.int .u8 32)) → (w.drewN nq).heap.size ≤ g2 → At w1 g2 39 hs2 → (∀ i, i + 1 < r + 1 → hs2[i]? = hs[i + 1]?) → hs2[r + 1 - 1]? = some (.slice (some ⟨g, 0, none⟩) m d2) → r + 1 ≤ c2 → Own w1 lo w1.heap.size (some ⟨g2, 0, none⟩) (r + 1) c2 (scroll m ls)) := Lib.hid fun w1 g g2 c2 d2 cs hs2 hB => HO5.out w1 g g2 c2 d2 cs hs2 ⟨hB.os, hB.tape, hB.output, hB.size, hB.block⟩
  have o2 : hb < (w.drewN nq).heap.size := o2
  have hrb : rb < (w.drewN nq).heap.size := hrb
  have hlo : lo ≤ (w.drewN nq).heap.size := by omega
  clear HV HH HO5 HHB a0 a1 a2 a3 f3
  generalize w.drewN nq = w2 at HV2 HHB2 HB2 HO2 o2 hrb hlo ⊢
  obtain ⟨a0, a1, a2, a3, _⟩ := HV2.out.seven
  dsimp only at a0 a1 a2 a3
  have HBN : Hid (Below w2.heap.size w2 (w2.alloc (.cells #[] 39))) := Lib.hid ((Below.refl _ w2).alloc (Nat.le_refl _) _)
  have HWN : Hid ((w2.alloc (.cells #[] 39)).ownsRow w2.heap.size 39 1 (.slice (some ⟨w2.heap.size, 0, none⟩) 0 0) 0 []) := Lib.hid (World.ownsRow_lit w2 #[] 0 (Nat.le_refl _) (by omega) rfl)
  have HNC : Hid (∀ j u, news[j]? = some u → (w2.alloc (.cells #[] 39)).cell? ((⟨hb, 1, none⟩ : Addr).add j) = some u) := Lib.hid fun j u hj => by
    have hjr : j < r := by have := (List.getElem?_eq_some_iff.1 hj).1; have := HNL.out; omega
    obtain ⟨b, d, h1, h2⟩ := HNG.out j hjr
    rw [h1] at hj
    rw [Go.WideShapes.add_plain, HBN.out.cell (p := ⟨hb, 1 + j, none⟩) o2, HHB2.out.cell, Nat.add_comm 1 j, h2, hj]
  have HN1 : Hid (∀ u ∈ news, u.oneCell' = true) := Lib.hid fun u hu => by
    obtain ⟨j, hj⟩ := List.mem_iff_getElem?.1 hu
    have hjr : j < r := by have := (List.getElem?_eq_some_iff.1 hj).1; have := HNL.out; omega
    obtain ⟨b, d, h1, _⟩ := HNG.out j hjr
    rw [h1] at hj
    injection hj with hj
    rw [← hj]; rfl
  go_wp2_with (first
    | refine wpList_append_lies _ rfl (.tmp 95) (.tmp 101) 32 rfl w2.heap.size 39 i0 (.slice none 0 0) 1 24 Try.underlying32 hi0 hz0 hz1 hz2' rfl (by decide) (.slice (some ⟨w2.heap.size, 0, none⟩) 0 0) 0 [] rfl HWN.out ⟨hb, 1, none⟩ r (c - 1) news rfl (by rw [HNL.out]; omega) HNC.out HN1.out (by omega) (by omega) (by omega) HBN.out.size _ rfl ?_; intro g4 c4 w4 hown4 hgrow4 _ hlt4; rw [Nat.zero_add, List.nil_append] at hown4; have HB4 : Hid (Below w2.heap.size w2 w4) := Lib.hid (HBN.out.grown hgrow4 HBN.out.size (fun k e => (HWN.out.lt k e).1)); have HV4 := Lib.hid (HV2.out.below HB4.out); have HO4 := Lib.hid hown4; have b1 := HV4.out.seven.2.1; dsimp only at b1; clear hown4 hgrow4 a0 a1 a2 a3
    | at_make; refine wpList_make_full _ rfl (.tmp 107) (.tmp 107) 39 rfl w4.heap.size 5 j0 (.int .u8 0) 1 Try.underlying39 hj0 hy0 hy1 .i64 .i64 _ _ m rfl rfl rfl rfl (by rw [hy2]; omega) (by omega) (Nat.le_refl _) ?_; intro w5 hown5 hgrow5; rw [made_bytes] at hown5; have HB5 : Hid (Below w4.heap.size w4 w5) := Lib.hid ((Below.refl w4.heap.size w4).grown hgrow5 (Nat.le_refl _) (fun k e => by cases e)); have HO5 := Lib.hid hown5; clear hgrow5 hown5 b1)
  have ST : Hid (∃ cs, At w5 w4.heap.size 5 cs ∧ m ≤ cs.size ∧ ∀ j, j < 0 → cs[j]? = some (.int .u8 32)) := Lib.hid (by
    obtain ⟨g, cs, e, _, h1, h2⟩ := own_block' HO5.out
    injection e with e _
    subst e
    have := (Array.getElem?_eq_some_iff.1 (h2 (m - 1) _ (by rw [List.getElem?_replicate, if_pos (by omega)]))).1
    exact ⟨cs, h1, by omega, fun j hj => absurd hj (Nat.not_lt_zero _)⟩)
  clear HO5 HWN HBN
  go_loopg [6] m (fun g s6 wr => ∃ x : Nat, x ≤ m ∧ m - x ≤ g ∧ s6 = .int .i64 x ∧ Hid (Below w4.heap.size w4 wr) ∧ Hid (∃ cs, At wr w4.heap.size 5 cs ∧ m ≤ cs.size ∧ ∀ j, j < x → cs[j]? = some (.int .u8 32)))
  case atStart => exact ⟨0, Nat.zero_le _, by omega, rfl, HB5, ST⟩
  case round =>
    obtain ⟨x, hx, hg, rfl, HB, HC⟩ := hrel
    clear HB5 ST
    have a1 := (HV4.out.below HB.out).seven.2.1
    dsimp only at a1
    obtain ⟨cs, h1, h2, h3⟩ := HC.out
    by_cases hlt : x < m
    · have hcell : wr.cell? ⟨w4.heap.size, x, none⟩ = some (cs[x]'(by omega)) := by rw [h1.cell, Array.getElem?_eq_getElem (by omega)]
      generalize cs[x]'(by omega) = old at hcell
      have hfr := h1.frozen x
      have NB : Hid (Below w4.heap.size w4 (wr.setCell ⟨w4.heap.size, x, none⟩ (.int .u8 32))) := Lib.hid (HB.out.setCell (p := ⟨w4.heap.size, x, none⟩) (Nat.le_refl _) _)
      have NC : Hid (∃ cs, At (wr.setCell ⟨w4.heap.size, x, none⟩ (.int .u8 32)) w4.heap.size 5 cs ∧ m ≤ cs.size ∧ ∀ j, j < x + 1 → cs[j]? = some (.int .u8 32)) := Lib.hid ⟨_, h1.set x (.int .u8 32), by simpa using h2, fun j hj => by
        rw [Array.getElem?_setIfInBounds]
        by_cases hxj : x = j
        · rw [if_pos hxj, if_pos (by omega)]
        · rw [if_neg hxj]; exact h3 j (by omega)⟩
      clear HB HC h1 h2 h3
      go_wp2
      go_roundg (m - (x + 1))
      case measure => omega
      case rel => exact ⟨x + 1, by omega, by omega, by go_num, NB, NC⟩
    · obtain rfl : x = m := by omega
      have H1 := Lib.hid h1
      have H3 := Lib.hid h3
      have hw4 := HB4.out.size
      have hwr := HB.out.size
      have HV8 : Hid ((wr.alloc (.cells #[.slice (some ⟨w4.heap.size, 0, none⟩) x x] 39)).ownsRow w2.heap.size 39 1 (.slice (some ⟨g4, 0, none⟩) r c4) r news) := Lib.hid (own_keep (own_keep HO4.out HB.out) ((Below.refl _ _).alloc (Nat.le_refl _) _))
      have HB8 : Hid (Below w2.heap.size w2 (wr.alloc (.cells #[.slice (some ⟨w4.heap.size, 0, none⟩) x x] 39))) := Lib.hid ((HB4.out.trans (HB.out.mono hw4)).alloc (by omega) _)
      have H8 := Lib.hid (h1.alloc (.cells #[.slice (some ⟨w4.heap.size, 0, none⟩) x x] 39))
      clear HC h1 h2 h3 HO4
      go_wp2_with (refine wpList_append_lies _ rfl (.tmp 122) (.tmp 124) 32 rfl w2.heap.size 39 i0 (.slice none 0 0) 1 24 Try.underlying32 hi0 hz0 hz1 hz2' rfl (by decide) (.slice (some ⟨g4, 0, none⟩) r c4) r news rfl HV8.out ⟨wr.heap.size, 0, none⟩ 1 1 [.slice (some ⟨w4.heap.size, 0, none⟩) x x] rfl rfl (fun q u hq => by
            match q, hq with
            | 0, hq => rw [Go.WideShapes.add_plain]; exact ((At.new wr 39 #[.slice (some ⟨w4.heap.size, 0, none⟩) x x]).cell 0).trans (by simpa using hq)
            | q + 1, hq => simp at hq) (fun u hu => by rw [List.mem_singleton.1 hu]; rfl) (by omega) (by omega) (by omega) HB8.out.size _ rfl ?_; intro g6 c6 w6 hown6 hgrow6 _ hlt6; have HB6 : Hid (Below w2.heap.size w2 w6) := Lib.hid (HB8.out.grown hgrow6 HB8.out.size (fun k e => (HV8.out.lt k e).1)); have HV6 := Lib.hid (HV2.out.below HB6.out); have HO6 := Lib.hid hown6; have HG6 := Lib.hid hgrow6; have b2 := HV6.out.seven.2.2.1; have bf := HV6.out.frozen 2; dsimp only at b2; clear hown6 hgrow6 a1)
      have FIN : Hid (Rent lo rb N ⟨r + 1, x, scroll x ls, r, k, esc, pm⟩ w (w6.setCell ⟨rb, 2, none⟩ (.slice (some ⟨g6, 0, none⟩) (r + 1) c6))) := Lib.hid (by
        have e : down ⟨r + 1, x, ls, r, k, esc, pm⟩ = ⟨r + 1, x, scroll x ls, r, k, esc, pm⟩ := by unfold down; rw [if_neg (by dsimp only; omega)]
        have A6 : At w6 w4.heap.size 5 cs := H8.out.same (HG6.out.block _ H8.out.lt (fun e => by simp [Value.ownBlock] at e; omega))
        obtain ⟨g, hs6, eg, hg1, hg2, hg3⟩ := own_block' HO6.out
        injection eg with eg _
        subst eg
        obtain ⟨_, _, ev, _, hc6⟩ := own_form' HO6.out
        injection ev with _ _ ev
        subst ev
        have OWN := HO2.out w6 w4.heap.size g6 _ x cs hs6 HB6.out hw4 A6 H3.out hg1 hg2 (fun i hi => by
          obtain ⟨b, d, n1, n2⟩ := HNG.out i (by omega)
          rw [n2]
          exact hg3 i _ (by rw [List.getElem?_append_left (by rw [HNL.out]; omega)]; exact n1)) (hg3 r _ (by
            rw [List.getElem?_append_right (by rw [HNL.out]; exact Nat.le_refl _), HNL.out, Nat.sub_self]; rfl)) hc6
        refine Rent.trans (HB2.out.trans (HB6.out.mono hlo)) ⟨⟨_, _, q, ⟨by have := HV2.out.ok.down; rw [e] at this; exact this, HV6.out.blk.set 2 _, ?_, HV6.out.two, HV6.out.one, HV6.out.short, HV6.out.le⟩⟩, (Below.refl lo w6).setCell (p := ⟨rb, 2, none⟩) HV6.out.le _⟩
        have hsz : (w6.setCell ⟨rb, 2, none⟩ (.slice (some ⟨g6, 0, none⟩) (r + 1) c6)).heap.size = w6.heap.size := by simp [World.setCell]
        rw [hsz]
        exact Own.keepT OWN HV6.out.blk tne5 tne39 ((But.refl rb w6).setCell 2 _))
      clear HB HO6 HG6
      go_wp2
      go_end0
      exact ⟨rfl, FIN.out.same rfl rfl rfl rfl⟩
end Go.Proofs.Yteekihhngjbjgaa.vtt
