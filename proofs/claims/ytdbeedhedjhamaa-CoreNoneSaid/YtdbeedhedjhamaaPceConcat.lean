/- slices.Grow of the nil slice, and slices.Concat, of texts and of slices: what it makes is a row of one's own. -/
import Derived.Test.YtdbeedhedjhamaaPceWords
import Derived.Lib.AppendZeros
/-! Pieces: what a table is asked by itself: isNone, all, Len, Pieces; tableOf, cut, onePiece. -/
namespace Go.Proofs.Ytdbeedhedjhamaa.pce
open Go.RowKit Go.Lib
set_option linter.unusedVariables false
set_option linter.unusedSimpArgs false
set_option linter.unnecessarySimpa false
set_option linter.unusedSectionVars false

/-- One that is none: nil, or a table that none of the calls made. -/
def NoTab (w : World) (v : Value) : Prop := v = .pointer none ∨ ∃ b u, v = .pointer (some ⟨b, 0, none⟩) ∧ At w b 104 #[.bool false, u]
theorem NoTab.below {w w' : World} {v : Value} (h : NoTab w v) (hB : Below w.heap.size w w') : NoTab w' v := by
  rcases h with h | ⟨b, u, h, hA⟩
  · exact .inl h
  · exact .inr ⟨b, u, h, hA.same (hB.block b hA.lt)⟩

theorem isNone_tab (w : World) (b : Nat) (u : Value) (h : At w b 104 #[.bool true, u]) :
    Calls Try.prog 53 #[.pointer (some ⟨b, 0, none⟩)] w fun e w' => e = .returned (.bool false) ∧ w = w' := by
  have h0 : w.cell? ⟨b, 0, none⟩ = some (.bool true) := h.cell 0
  clear h
  go_enter Try.func53, Try.ntmps53
  go_wp2
  go_ret
  exact ⟨rfl, rfl⟩
theorem isNone_no (w : World) (v : Value) (h : NoTab w v) :
    Calls Try.prog 53 #[v] w fun e w' => e = .returned (.bool true) ∧ w = w' := by
  rcases h with rfl | ⟨b, u, rfl, h⟩
  · go_enter Try.func53, Try.ntmps53
    go_wp2
    go_ret
    exact ⟨rfl, rfl⟩
  · have h0 : w.cell? ⟨b, 0, none⟩ = some (.bool false) := h.cell 0
    clear h
    go_enter Try.func53, Try.ntmps53
    go_wp2
    go_ret
    exact ⟨rfl, rfl⟩

theorem all_tab (w : World) (b : Nat) (u : Value) (h : At w b 104 #[.bool true, u]) :
    Calls Try.prog 44 #[.pointer (some ⟨b, 0, none⟩)] w fun e w' => e = .returned u ∧ w = w' := by
  have C := Lib.hid (isNone_tab w b u h)
  have h1 : w.cell? ⟨b, 1, none⟩ = some u := h.cell 1
  clear h
  go_enter Try.func44, Try.ntmps44
  go_wp2_with fail
  go_at_call 53
  refine C.out.mono ?_
  rintro e w1 ⟨rfl, rfl⟩
  clear C
  go_wp2
  go_ret
  exact ⟨rfl, rfl⟩
theorem all_no (w : World) (v : Value) (h : NoTab w v) :
    Calls Try.prog 44 #[v] w fun e w' => e = .returned (.slice none 0 0) ∧ w = w' := by
  have C := Lib.hid (isNone_no w v h)
  clear h
  go_enter Try.func44, Try.ntmps44
  go_wp2_with fail
  go_at_call 53
  refine C.out.mono ?_
  rintro e w1 ⟨rfl, rfl⟩
  clear C
  go_wp2
  go_ret
  exact ⟨rfl, rfl⟩
/-- all: the list of pieces that a table has. -/
theorem all_is (w : World) (F : Nat → Prop) (v : Value) (ps : List Pc) (h : Tab w F v ps) :
    Calls Try.prog 44 #[v] w fun e w' => (∃ A k c, e = .returned (.slice A k c) ∧ Pcs w F A k c ps) ∧ w = w' := by
  obtain ⟨b, A, k, c, rfl, hF, hA, hP, hL⟩ := h
  refine (all_tab w b _ hA).mono ?_
  rintro e w' ⟨rfl, rfl⟩
  exact ⟨⟨A, k, c, rfl, hP⟩, rfl⟩

theorem tableOf_is (w : World) (A : Option Addr) (k c : Nat) :
    Calls Try.prog 54 #[.slice A k c] w fun e w' => e = .returned (.pointer (some ⟨w.heap.size, 0, none⟩)) ∧ w' = w.alloc (.cells #[.bool true, .slice A k c] 104) := by
  go_enter Try.func54, Try.ntmps54
  go_wp2
  go_ret
  exact ⟨rfl, rfl⟩

/-- cut: by three indices. -/
theorem cut_is (w : World) (b off n c low high : Nat) (h1 : low < high) (h2 : high ≤ c) (h3 : c ≤ 9223372036854775807) :
    Calls Try.prog 61 #[.slice (some ⟨b, off, none⟩) n c, .int .i64 low, .int .i64 high] w fun e w' =>
      e = .returned (.slice (some ⟨b, off + low, none⟩) (high - low) (high - low)) ∧ w = w' := by
  have h4 : ¬ high = low := by omega
  go_enter Try.func61, Try.ntmps61
  go_wp2
  go_ret
  exact ⟨rfl, rfl⟩

set_option maxHeartbeats 2000000 in
set_option maxRecDepth 100000 in
/-- Len: how many lines. -/
theorem len_is (w : World) (F : Nat → Prop) (v : Value) (ps : List Pc) (h : Tab w F v ps) :
    Calls Try.prog 29 #[v] w fun e w' => e = .returned (.int .i64 ((texts ps).length : Nat)) ∧ w = w' := by
  have HL := Lib.hid h.len
  have C := Lib.hid (all_is w F v ps h)
  clear h
  go_enter Try.func29, Try.ntmps29
  go_wp2_with fail
  go_at_call 44
  refine C.out.mono ?_
  rintro e w1 ⟨⟨A, n, c, rfl, hP⟩, rfl⟩
  clear C
  have HP := Lib.hid hP
  have hn : n ≤ 2000 := by have := texts_len hP.full; have := HL.out; rw [hP.len]; omega
  clear hP
  go_wp2
  go_loopg [3, 9] n (fun g s3 s9 wr => ∃ (k r : Nat), k ≤ n ∧ n - k ≤ g ∧ s9 = .int .i64 k ∧ wr = w ∧ s3 = .int .i64 r ∧ r ≤ 2000 ∧ r = (texts (ps.take k)).length)
  case atStart => exact ⟨0, 0, Nat.zero_le _, by omega, rfl, rfl, rfl, by omega, by simp [texts]⟩
  case round =>
    obtain ⟨k, r, hk, hg, rfl, rfl, rfl, hr, heq⟩ := hrel
    have HE := Lib.hid heq
    clear heq
    by_cases hlt : k < n
    · obtain ⟨p, hp⟩ : ∃ p, ps[k]? = some p := ⟨_, List.getElem?_eq_getElem (by rw [← HP.out.len]; exact hlt)⟩
      have hp2 : (ps.map pv)[k]? = some (pv p) := by rw [List.getElem?_map, hp]; rfl
      obtain ⟨b1, o1, rfl, _, _, hc1⟩ := HP.out.row (by rw [List.length_map, ← HP.out.len]; omega)
      have g1 : wr.cell? ⟨b1, o1 + k, none⟩ = some (.slice (some ⟨p.blk, p.off, none⟩) p.l.length p.l.length) := hc1 k _ hp2
      have T := Lib.hid (texts_take ps k hp)
      have hl : r + p.l.length ≤ 2000 := by
        have h1 := texts_take_len ps (k + 1)
        rw [T.out, List.length_append, ← HE.out] at h1
        exact Nat.le_trans h1 HL.out
      have HLL := Lib.hid hl
      have hl2 : p.l.length ≤ 2000 := by omega
      clear hc1 hp2 hp
      generalize hm : p.l.length = m at g1 hl hl2
      have HM := Lib.hid hm
      clear hm
      go_wp2
      go_roundg (n - (k + 1))
      case measure => omega
      case rel =>
        refine ⟨k + 1, r + m, by omega, by omega, by go_num, rfl, by go_num, hl, ?_⟩
        rw [T.out, List.length_append, HE.out, HM.out]
    · have hkn : k = n := by omega
      subst hkn
      have HR : Hid (r = (texts ps).length) := Lib.hid (by rw [HE.out, HP.out.len, List.take_length])
      go_wp2
      go_ret
      exact ⟨by rw [← HR.out]; rfl, rfl⟩
theorem len_no (w : World) (v : Value) (h : NoTab w v) :
    Calls Try.prog 29 #[v] w fun e w' => e = .returned (.int .i64 0) ∧ w = w' := by
  have C := Lib.hid (all_no w v h)
  clear h
  go_enter Try.func29, Try.ntmps29
  go_wp2_with fail
  go_at_call 44
  refine C.out.mono ?_
  rintro e w1 ⟨rfl, rfl⟩
  clear C
  go_wp2
  go_loopg [3, 9] 0 (fun g s3 s9 wr => s9 = .int .i64 0 ∧ wr = w ∧ s3 = .int .i64 0)
  case atStart => exact ⟨rfl, rfl, rfl⟩
  case round =>
    obtain ⟨rfl, rfl, rfl⟩ := hrel
    go_wp2
    go_ret
    exact ⟨rfl, rfl⟩

/-- Pieces: how many. -/
theorem pieces_is (w : World) (F : Nat → Prop) (v : Value) (ps : List Pc) (h : Tab w F v ps) :
    Calls Try.prog 36 #[v] w fun e w' => e = .returned (.int .i64 (ps.length : Nat)) ∧ w = w' := by
  have C := Lib.hid (all_is w F v ps h)
  clear h
  go_enter Try.func36, Try.ntmps36
  go_wp2_with fail
  go_at_call 44
  refine C.out.mono ?_
  rintro e w1 ⟨⟨A, n, c, rfl, hP⟩, rfl⟩
  have hn := Lib.hid hP.len
  clear C hP
  go_wp2
  go_ret
  exact ⟨by show Ending.returned (.int .i64 (n : Int)) = _; rw [hn.out], rfl⟩
theorem pieces_no (w : World) (v : Value) (h : NoTab w v) :
    Calls Try.prog 36 #[v] w fun e w' => e = .returned (.int .i64 0) ∧ w = w' := by
  have C := Lib.hid (all_no w v h)
  clear h
  go_enter Try.func36, Try.ntmps36
  go_wp2_with fail
  go_at_call 44
  refine C.out.mono ?_
  rintro e w1 ⟨rfl, rfl⟩
  clear C
  go_wp2
  go_ret
  exact ⟨rfl, rfl⟩

/-- The pieces that one list of lines makes: one, or none. -/
def lone (b o : Nat) (zs : List ByteArray) : List Pc := if zs = [] then [] else [⟨b, o, zs⟩]
theorem lone_text (b o : Nat) (zs : List ByteArray) : texts (lone b o zs) = zs := by
  unfold lone; split
  · rename_i h; rw [h]; rfl
  · rw [texts_one]
theorem lone_len (b o : Nat) (zs : List ByteArray) : (lone b o zs).length = if zs = [] then 0 else 1 := by unfold lone; split <;> rfl
theorem lone_full (b o : Nat) (zs : List ByteArray) : Full (lone b o zs) := by
  unfold lone; split
  · exact Full.nil
  · rename_i h; exact Full.one h

set_option maxHeartbeats 1000000 in
/-- onePiece, of a row of one's own. -/
theorem onePiece_is (w : World) (base : Nat) (A : Option Addr) (n c : Nat) (zs : List ByteArray) (hn : n = zs.length) (hb : n ≤ 100000) (h : w.ownsRow base 9 1 (.slice A n c) n (zs.map Value.string)) :
    Calls Try.prog 55 #[.slice A n c] w fun e w' => ∃ B b k c', e = .returned (.slice B k c') ∧ Pcs w' (base ≤ ·) B k c' (lone b 0 zs) ∧ Below w.heap.size w w' := by
  rcases Nat.eq_zero_or_pos n with h0 | h0
  · subst h0
    obtain rfl : zs = [] := List.eq_nil_of_length_eq_zero hn.symm
    clear h hn
    go_enter Try.func55, Try.ntmps55
    go_wp2
    go_ret
    exact ⟨none, 0, 0, 0, rfl, ⟨rfl, fun _ => rfl, Full.nil, VRd.nil, fun p hp => by cases hp⟩, Below.refl _ _⟩
  · obtain ⟨g, cap, hv, hbg, hgl⟩ := h.form (by omega)
    obtain ⟨rfl, rfl⟩ : A = some ⟨g, 0, none⟩ ∧ c = cap := by injection hv with h1 _ h2; exact ⟨h1, h2⟩
    have hcap := own_cap h
    have HC := Lib.hid (VRd.of_own h)
    have HN := Lib.hid hn
    have h63 : c ≤ 9223372036854775807 := by have := hcap.2; unfold maxLen at this; omega
    have hnc := hcap.1
    clear hv hcap h hn
    have C := fun W => cut_is W g 0 n c 0 n h0 hnc h63
    go_enter Try.func55, Try.ntmps55
    go_wp2_with fail
    go_at_call 61
    refine (C _).mono ?_
    rintro e w1 ⟨rfl, rfl⟩
    clear C
    go_wp2
    go_ret
    have hz : zs ≠ [] := fun e => by rw [e] at HN; have := HN.out; simp at this; omega
    refine ⟨_, g, 1, 1, rfl, ?_, (Below.refl _ _).alloc (Nat.le_refl _) _⟩
    unfold lone
    rw [if_neg hz]
    refine ⟨rfl, (fun h => (by cases h)), Full.one hz, fun _ => ⟨w.heap.size, 0, rfl, by omega, by simp, fun j u hj => ?_⟩, fun p hp => ?_⟩
    · match j, hj with
      | 0, hj =>
        simp only [List.map_cons, List.map_nil, List.getElem?_cons_zero, Option.some.injEq] at hj
        rw [← hj]
        unfold pv
        rw [← HN.out]
        exact (At.new _ _ _).cell 0
      | j + 1, hj => simp at hj
    · rw [List.mem_singleton.1 hp]
      exact PcAt.keep ⟨hbg, hgl, fun j u hj => by
        obtain ⟨b, o, e, _, _, h⟩ := HC.out (by rw [List.length_map, ← HN.out]; exact h0)
        injection e with e
        injection e with e1 e2
        subst e1 e2
        exact h j u hj⟩ (fun b _ hb => Below.heap_alloc _ _ _ hb) (by simp)
end Go.Proofs.Ytdbeedhedjhamaa.pce

/-! Pieces: between: the pieces of the lines that stand behind the first a ones, up to the one numbered u. -/
namespace Go.Proofs.Ytdbeedhedjhamaa.pce
open Go.RowKit Go.Lib
set_option linter.unusedVariables false
set_option linter.unusedSimpArgs false
set_option linter.unnecessarySimpa false
set_option linter.unusedSectionVars false

theorem cut_at {w : World} {F : Nat → Prop} {p : Pc} (h : PcAt w F p) (low high : Nat) : PcAt w F (p.cut low high) :=
  ⟨h.mine, h.lt, fun j u hj => by
    simp only [Pc.cut, List.map_drop, List.map_take, List.getElem?_drop, List.getElem?_take] at hj ⊢
    split at hj
    · rw [show p.off + low + j = p.off + (low + j) by omega]
      exact h.cells _ u hj
    · cases hj⟩
theorem one_in {w : World} {F : Nat → Prop} {p : Pc} (h : PcAt w F p) (a u : Int) : ∀ q ∈ one a u p, PcAt w F q := fun q hq => by
  unfold one at hq
  split at hq
  · rw [List.mem_singleton.1 hq]; exact cut_at h _ _
  · cases hq
theorem btw_in {w : World} {F : Nat → Prop} : ∀ (ps : List Pc) (a u : Int), (∀ p ∈ ps, PcAt w F p) → ∀ q ∈ btw a u ps, PcAt w F q
  | [], a, u, h, q, hq => by cases hq
  | p :: r, a, u, h, q, hq => by
    rw [btw_cons, List.mem_append] at hq
    rcases hq with hq | hq
    · exact one_in (h p (by simp)) a u q hq
    · exact btw_in r _ _ (fun p hp => h p (by simp [hp])) q hq

set_option maxHeartbeats 4000000 in
set_option maxRecDepth 100000 in
theorem between_is (w : World) (F : Nat → Prop) (v : Value) (ps : List Pc) (a u : Int) (ha : 0 ≤ a) (ha2 : a ≤ 9223372036854775807) (hu : 0 ≤ u) (hu2 : u ≤ 9223372036854775807) (h : Tab w F v ps) :
    Calls Try.prog 46 #[v, .int .i64 a, .int .i64 u] w fun e w' =>
      ∃ B k c, e = .returned (.slice B k c) ∧ Pcs w' (fun b => F b ∨ w.heap.size ≤ b) B k c (btw a u ps) ∧ Below w.heap.size w w' := by
  obtain ⟨i0, hi, hz0, hz1, hz2⟩ := info_parts info22
  have hml : (1000000 : Nat) ≤ maxLen := by unfold maxLen; omega
  have HL := Lib.hid h.len
  have C := Lib.hid (all_is w F v ps h)
  clear h
  go_enter Try.func46, Try.ntmps46
  go_wp2_with fail
  go_at_call 44
  refine C.out.mono ?_
  rintro e w1 ⟨⟨A, n, c, rfl, hP⟩, rfl⟩
  clear C
  have HP := Lib.hid hP
  have hn : n ≤ 2000 := by have := texts_len hP.full; have := HL.out; rw [hP.len]; omega
  clear hP
  go_wp2
  go_loopg [1, 2, 7, 15] n (fun g s1 s2 s7 s15 wr => ∃ (k m : Nat) (x y : Int), k ≤ n ∧ n - k ≤ g ∧ s15 = .int .i64 k ∧ s1 = .int .i64 x ∧ s2 = .int .i64 y ∧ x = a - at_ ps k ∧ y = u - at_ ps k ∧ m = (btw a u (ps.take k)).length ∧ m ≤ k ∧ wr.ownsRow w.heap.size 22 1 s7 m ((btw a u (ps.take k)).map pv) ∧ Below w.heap.size w wr)
  case atStart => exact ⟨0, 0, a, u, Nat.zero_le _, by omega, rfl, rfl, rfl, by rw [at_zero]; omega, by rw [at_zero]; omega, rfl, Nat.le_refl _, World.ownsRow_nil _ _ _ _, Below.refl _ _⟩
  case round =>
    obtain ⟨k, m, x, y, hk, hg, rfl, rfl, rfl, hx, hy, hm, hmk, hown, hB⟩ := hrel
    have hz := hB.size
    have HM := Lib.hid hm
    clear hm
    have hxl : -2000 ≤ x ∧ x ≤ 9223372036854775807 := by have := at_le ps k; have := HL.out; omega
    have hyl : -2000 ≤ y ∧ y ≤ 9223372036854775807 := by have := at_le ps k; have := HL.out; omega
    have HX := Lib.hid hx
    have HY := Lib.hid hy
    clear hx hy
    obtain ⟨hx1, hx2⟩ := hxl
    obtain ⟨hy1, hy2⟩ := hyl
    by_cases hlt : k < n
    · obtain ⟨p, hp⟩ : ∃ p, ps[k]? = some p := ⟨_, List.getElem?_eq_getElem (by rw [← HP.out.len]; exact hlt)⟩
      have hp2 : (ps.map pv)[k]? = some (pv p) := by rw [List.getElem?_map, hp]; rfl
      obtain ⟨b1, o1, rfl, _, _, hc1⟩ := (HP.out.row.below hB) (by rw [List.length_map, ← HP.out.len]; omega)
      have g1 : wr.cell? ⟨b1, o1 + k, none⟩ = some (.slice (some ⟨p.blk, p.off, none⟩) p.l.length p.l.length) := hc1 k _ hp2
      have T := Lib.hid (at_succ ps k hp)
      have S := Lib.hid (btw_snoc ps k a u hp)
      have hpl : p.l.length ≤ 2000 := by have := piece_len hp; have := HL.out; omega
      clear hc1 hp2 hp
      generalize hl : p.l.length = l at g1 hpl
      have HLN := Lib.hid hl
      clear hl
      by_cases hone : max x 0 < min y l
      · have HO : Hid (one (a - at_ ps k) (u - at_ ps k) p = [p.cut x.toNat (min y l).toNat]) := Lib.hid (by
          rw [← HX.out, ← HY.out]; unfold one; rw [HLN.out, if_pos hone, show (max x 0).toNat = x.toNat by omega])
        obtain ⟨lo, hlo⟩ : ∃ lo : Nat, max x 0 = (lo : Int) := ⟨(max x 0).toNat, by omega⟩
        obtain ⟨hh, hhi⟩ : ∃ hh : Nat, min y (l : Int) = (hh : Int) := ⟨(min y (l : Int)).toNat, by omega⟩
        have hlh : lo < hh := by omega
        have hhl : hh ≤ l := by omega
        have HO2 : Hid (p.cut x.toNat (min y l).toNat = p.cut lo hh) := Lib.hid (by rw [show x.toNat = lo by omega, show (min y (l : Int)).toNat = hh by omega])
        have HQ : Hid (pv (p.cut lo hh) = .slice (some ⟨p.blk, p.off + lo, none⟩) (hh - lo) (hh - lo)) := Lib.hid (by
          unfold pv; rw [cut_len p (by omega) (by rw [HLN.out]; exact hhl)]; rfl)
        clear hone
        go_wp2_with fail
        go_at_call 61
        refine (cut_is wr p.blk p.off l l lo hh hlh hhl (by omega)).mono ?_
        rintro e w2 ⟨rfl, rfl⟩
        go_wp2_with (at_builtin; refine wpList_append_own _ rfl (.tmp 28) (.tmp 33) 85 rfl w.heap.size 22 i0 (.slice none 0 0) 1 24 Try.underlying85 hi hz0 hz1 hz2 rfl (by decide) _ _ _ rfl (hown.alloc _) ⟨wr.heap.size, 0, none⟩ 1 1 [.slice (some ⟨p.blk, p.off + lo, none⟩) (hh - lo) (hh - lo)] rfl rfl (cell_one_new _ _ _) (by intro u hu; simp only [List.mem_singleton] at hu; subst hu; rfl) (by omega) (by omega) (by simp; omega) ?_; intro v1 w1 hown1 hgrow1 _; have hB1 := (hB.alloc hz (.cells #[.slice (some ⟨p.blk, p.off + lo, none⟩) (hh - lo) (hh - lo)] 22)).grown hgrow1 (by simp; omega) (fun j hj => (hown.lt j hj).1))
        have HOWN := Lib.hid hown1
        have HB1 := Lib.hid hB1
        clear hown1 hB1 hgrow1 hown hB
        go_roundg (n - (k + 1))
        case measure => omega
        case rel =>
          have e1 : btw a u (ps.take (k + 1)) = btw a u (ps.take k) ++ [p.cut lo hh] := by rw [S.out, HO.out, HO2.out]
          refine ⟨k + 1, m + 1, x - l, y - l, by omega, by omega, by go_num, by go_num, by go_num, ?_, ?_, ?_, by omega, ?_, HB1.out⟩
          · rw [T.out, HLN.out, HX.out]; omega
          · rw [T.out, HLN.out, HY.out]; omega
          · rw [e1, List.length_append, ← HM.out]; rfl
          · rw [e1, List.map_append, List.map_cons, List.map_nil, HQ.out]; exact HOWN.out
      · have HO : Hid (one (a - at_ ps k) (u - at_ ps k) p = []) := Lib.hid (by
          rw [← HX.out, ← HY.out]; unfold one; rw [HLN.out, if_neg hone])
        obtain ⟨lo, hlo⟩ : ∃ lo : Int, max x 0 = lo := ⟨_, rfl⟩
        obtain ⟨hh, hhi⟩ : ∃ hh : Int, min y (l : Int) = hh := ⟨_, rfl⟩
        have hlh : ¬ lo < hh := by omega
        clear hone
        go_wp2
        go_roundg (n - (k + 1))
        case measure => omega
        case rel =>
          have e1 : btw a u (ps.take (k + 1)) = btw a u (ps.take k) := by rw [S.out, HO.out, List.append_nil]
          refine ⟨k + 1, m, x - l, y - l, by omega, by omega, by go_num, by go_num, by go_num, ?_, ?_, ?_, by omega, ?_, hB⟩
          · rw [T.out, HLN.out, HX.out]; omega
          · rw [T.out, HLN.out, HY.out]; omega
          · rw [e1]; exact HM.out
          · rw [e1]; exact hown
    · have hkn : k = n := by omega
      subst hkn
      have E : Hid (ps.take k = ps) := Lib.hid (by rw [HP.out.len, List.take_length])
      obtain ⟨B, c', rfl, hnil, hmc⟩ := own_form' hown
      go_wp2
      go_ret
      rw [E.out] at hown HM
      refine ⟨B, m, c', rfl, ⟨HM.out, hnil, btw_full _ _ _, ?_, fun q hq => ?_⟩, hB⟩
      · exact (VRd.of_own hown).mono fun b hb _ => .inr hb
      · exact ((btw_in ps a u HP.out.each q hq).keep (fun b _ hb => hB.block b hb) hz).mono fun b hb _ => .inl hb

/-- Of one that is none, nothing. -/
theorem between_no (w : World) (v : Value) (a u : Int) (h : NoTab w v) :
    Calls Try.prog 46 #[v, .int .i64 a, .int .i64 u] w fun e w' => e = .returned (.slice none 0 0) ∧ w = w' := by
  have C := Lib.hid (all_no w v h)
  clear h
  go_enter Try.func46, Try.ntmps46
  go_wp2_with fail
  go_at_call 44
  refine C.out.mono ?_
  rintro e w1 ⟨rfl, rfl⟩
  clear C
  go_wp2
  go_loopg [1, 2, 7, 15] 0 (fun g s1 s2 s7 s15 wr => s15 = .int .i64 0 ∧ wr = w ∧ s7 = .slice none 0 0)
  case atStart => exact ⟨rfl, rfl, rfl⟩
  case round =>
    obtain ⟨rfl, rfl, rfl⟩ := hrel
    go_wp2
    go_ret
    exact ⟨rfl, rfl⟩
end Go.Proofs.Ytdbeedhedjhamaa.pce

/-! slices.Grow of the nil slice, and slices.Concat, of texts and of slices: what it makes is a row of one's own. -/
namespace Go.Proofs.Ytdbeedhedjhamaa.pce
open Go.RowKit Go.Lib
set_option linter.unusedVariables false
set_option linter.unusedSimpArgs false
set_option linter.unnecessarySimpa false
set_option linter.unusedSectionVars false

/-- One of the slices that are put together: where it stands, its room, its values. -/
structure Sg where
  A : Option Addr
  c : Nat
  vs : List Value
def sgv (s : Sg) : Value := .slice s.A s.vs.length s.c
def sum (ss : List Sg) : List Value := ss.flatMap (·.vs)
structure SgAt (w : World) (F : Nat → Prop) (s : Sg) : Prop where
  nil : s.A = none → s.c = 0
  row : VRd w F s.A s.vs
  one : ∀ u ∈ s.vs, u.oneCell' = true
theorem SgAt.keep {w w' : World} {F : Nat → Prop} {s : Sg} (h : SgAt w F s) (hk : ∀ b, F b → b < w.heap.size → w'.heap[b]? = w.heap[b]?) (hs : w.heap.size ≤ w'.heap.size) : SgAt w' F s := ⟨h.nil, h.row.keep hk hs, h.one⟩
theorem SgAt.below {w w' : World} {F : Nat → Prop} {s : Sg} (h : SgAt w F s) (hB : Below w.heap.size w w') : SgAt w' F s := ⟨h.nil, h.row.below hB, h.one⟩
theorem sum_take (ss : List Sg) (k : Nat) {s : Sg} (h : ss[k]? = some s) : sum (ss.take (k + 1)) = sum (ss.take k) ++ s.vs := by
  obtain ⟨hk, rfl⟩ := List.getElem?_eq_some_iff.1 h
  unfold sum
  rw [List.take_succ_eq_append_getElem hk, List.flatMap_append]; simp
theorem sum_take_len (ss : List Sg) (k : Nat) : (sum (ss.take k)).length ≤ (sum ss).length := by
  conv => rhs; rw [← List.take_append_drop k ss]
  unfold sum
  rw [List.flatMap_append, List.length_append]; omega

set_option maxHeartbeats 1000000 in
set_option maxRecDepth 100000 in
theorem growT (w : World) (n : Nat) (hn : n ≤ 100000) :
    Calls Try.prog 60 #[.slice none 0 0, .int .i64 n] w fun e w' => ∃ B c, e = .returned (.slice B 0 c) ∧ w'.ownsRow w.heap.size 9 1 (.slice B 0 c) 0 [] ∧ Below w.heap.size w w' := by
  obtain ⟨i0, hi, hz0, hz1, hz2⟩ := info_parts info9
  rcases Nat.eq_zero_or_pos n with h0 | h0
  · subst h0
    go_enter Try.func60, Try.ntmps60
    go_wp2
    go_ret
    exact ⟨none, 0, rfl, World.ownsRow_nil _ _ _ _, Below.refl _ _⟩
  · have hrz : ∀ ty, (Builtin.append_ #[22, 3] ty #[.slice none 0 0, .int .i64 (n : Int)]).run Try.prog w = _ := fun ty =>
      Lib.run_append_nil_zeros w 22 3 ty 9 i0 _ .i64 .i64 Try.underlying22 Try.underlying3 hi hz0 n h0 (by omega) (by omega) (by rw [hz2]; omega)
    obtain ⟨G, hG⟩ : ∃ G, G = grownCap w n 0 9 := ⟨_, rfl⟩
    have hGn : n ≤ G := by rw [hG]; exact grownCap_ge w _ _ _
    have hG2 : G ≤ maxLen := by rw [hG]; exact grownCap_le_maxLen w n 0 9 (by unfold maxLen; omega)
    rw [← hG] at hrz
    have HO := Lib.hid (World.ownsRow_made (base := w.heap.size) (e := 9) (size := 1) w.drew (Builtin.zeroCells (.string ⟨#[]⟩ : Value).cells n ++ Builtin.zeroCells (.string ⟨#[]⟩ : Value).cells (G - n)) G (Nat.le_refl _) hG2 (by rw [Array.size_append, size_zeroCells, size_zeroCells]; show n * 1 + (G - n) * 1 = G * 1; omega))
    have h63 : G ≤ 9223372036854775807 := by unfold maxLen at hG2; omega
    have hpos : (n : Int) > 0 := by omega
    clear hG hG2
    go_enter Try.func60, Try.ntmps60
    go_wp2_with (at_builtin; refine Lib.wpList_append_run _ rfl _ _ _ _ rfl _ _ rfl rfl _ _ (hrz _) ?_)
    go_ret
    exact ⟨_, _, rfl, HO.out, ((Below.refl _ w).drew).alloc (Nat.le_refl _) _⟩

set_option maxHeartbeats 4000000 in
set_option maxRecDepth 100000 in
theorem concatT (w : World) (F : Nat → Prop) (A : Option Addr) (n c : Nat) (ss : List Sg) (hn : n = ss.length) (hb : n ≤ 100000) (ht : (sum ss).length ≤ 100000) (h : VRd w F A (ss.map sgv)) (hs : ∀ s ∈ ss, SgAt w F s) :
    Calls Try.prog 45 #[.slice A n c] w fun e w' => ∃ B k c', e = .returned (.slice B k c') ∧ k = (sum ss).length ∧ w'.ownsRow w.heap.size 9 1 (.slice B k c') k (sum ss) ∧ Below w.heap.size w w' := by
  obtain ⟨i0, hi, hz0, hz1, hz2⟩ := info_parts info9
  have hml : (1000000 : Nat) ≤ maxLen := by unfold maxLen; omega
  have HN := Lib.hid hn
  have HT := Lib.hid ht
  have HS := Lib.hid hs
  clear hn hs ht
  go_enter Try.func45, Try.ntmps45
  go_wp2
  go_loopg [3, 11] n (fun g s3 s11 wr => ∃ (k r : Nat), k ≤ n ∧ n - k ≤ g ∧ s11 = .int .i64 k ∧ wr = w ∧ s3 = .int .i64 r ∧ r ≤ 100000 ∧ r = (sum (ss.take k)).length)
  case atStart => exact ⟨0, 0, Nat.zero_le _, by omega, rfl, rfl, rfl, by omega, by simp [sum]⟩
  case round =>
    obtain ⟨k, r, hk, hg, rfl, hwr, rfl, hr, heq⟩ := hrel
    have hwr := hwr.symm
    subst hwr
    have HE := Lib.hid heq
    clear heq
    by_cases hlt : k < n
    · obtain ⟨s, hs⟩ : ∃ s, ss[k]? = some s := ⟨_, List.getElem?_eq_getElem (by rw [← HN.out]; exact hlt)⟩
      have hs2 : (ss.map sgv)[k]? = some (sgv s) := by rw [List.getElem?_map, hs]; rfl
      obtain ⟨b1, o1, rfl, _, _, hc1⟩ := h (by rw [List.length_map, ← HN.out]; omega)
      have g1 : w.cell? ⟨b1, o1 + k, none⟩ = some (.slice s.A s.vs.length s.c) := hc1 k _ hs2
      have T := Lib.hid (sum_take ss k hs)
      have hl : r + s.vs.length ≤ 100000 := by
        have h1 := sum_take_len ss (k + 1)
        rw [T.out, List.length_append, ← HE.out] at h1
        exact Nat.le_trans h1 HT.out
      clear hc1 hs2 hs
      generalize hm : s.vs.length = m at g1 hl
      have HM := Lib.hid hm
      clear hm
      go_wp2
      go_roundg (n - (k + 1))
      case measure => omega
      case rel =>
        refine ⟨k + 1, r + m, by omega, by omega, by go_num, rfl, by go_num, hl, ?_⟩
        rw [T.out, List.length_append, HE.out, HM.out]
    · have hkn : k = n := by omega
      subst hkn
      go_wp2_with fail
      go_at_call 60
      refine (growT _ r hr).mono ?_
      rintro e w1 ⟨B, c1, rfl, hown0, hB0⟩
      clear hk hg hlt
      go_wp2
      go_loopg [6, 27] k (fun g s6 s27 wr => ∃ (j m : Nat), j ≤ k ∧ k - j ≤ g ∧ s27 = .int .i64 j ∧ m ≤ 100000 ∧ m = (sum (ss.take j)).length ∧ wr.ownsRow w.heap.size 9 1 s6 m (sum (ss.take j)) ∧ Below w.heap.size w wr)
      case atStart => exact ⟨0, 0, Nat.zero_le _, by omega, rfl, by omega, by simp [sum], by simpa [sum] using hown0, hB0⟩
      case round =>
        obtain ⟨j, m, hj, hg, rfl, hm, hme, hown, hB⟩ := hrel
        have hz := hB.size
        have ME := Lib.hid hme
        clear hme hown0 hB0
        by_cases hlt : j < k
        · obtain ⟨s, hs⟩ : ∃ s, ss[j]? = some s := ⟨_, List.getElem?_eq_getElem (by rw [← HN.out]; exact hlt)⟩
          have hs2 : (ss.map sgv)[j]? = some (sgv s) := by rw [List.getElem?_map, hs]; rfl
          obtain ⟨b1, o1, rfl, _, _, hc1⟩ := (h.below hB) (by rw [List.length_map, ← HN.out]; omega)
          have g1 : wr.cell? ⟨b1, o1 + j, none⟩ = some (.slice s.A s.vs.length s.c) := hc1 j _ hs2
          have T := Lib.hid (sum_take ss j hs)
          have hl : m + s.vs.length ≤ 100000 := by
            have h1 := sum_take_len ss (j + 1)
            rw [T.out, List.length_append, ← ME.out] at h1
            exact Nat.le_trans h1 HT.out
          have HSG := Lib.hid ((HS.out s (List.mem_of_getElem? hs)).below hB)
          clear hc1 hs2 hs
          rcases hA : s.A with _ | ad
          · have hc0 : s.c = 0 := HSG.out.nil hA
            have hv0 : s.vs = [] := by
              rcases Nat.eq_zero_or_pos s.vs.length with h0 | h0
              · exact List.eq_nil_of_length_eq_zero h0
              · obtain ⟨_, _, e, _⟩ := HSG.out.row h0
                rw [hA] at e; cases e
            rw [hA, hc0, hv0] at g1
            have T2 : Hid (sum (ss.take (j + 1)) = sum (ss.take j)) := Lib.hid (by rw [T.out, hv0, List.append_nil])
            clear hA hc0 hv0 hl
            go_wp2_with (at_builtin; refine wpList_append_own_none rfl (.tmp 31) (.tmp 32) 22 rfl w.heap.size 9 i0 1 Try.underlying22 hi _ _ _ rfl hown rfl ?_)
            go_roundg (k - (j + 1))
            case measure => omega
            case rel => exact ⟨j + 1, m, by omega, by omega, by go_num, hm, by rw [T2.out]; exact ME.out, by rw [T2.out]; exact hown, hB⟩
          · have HC := Lib.hid (HSG.out.row.cells hA)
            have HO := Lib.hid HSG.out.one
            rw [hA] at g1
            clear hA
            obtain ⟨x, hx⟩ : ∃ x, s.vs.length = x := ⟨_, rfl⟩
            have HX := Lib.hid hx
            rw [hx] at g1 hl
            clear hx
            go_wp2_with (at_builtin; refine wpList_append_own _ rfl (.tmp 31) (.tmp 32) 22 rfl w.heap.size 9 i0 (.string ⟨#[]⟩) 1 16 Try.underlying22 hi hz0 hz1 hz2 rfl (by decide) _ _ _ rfl hown ad x s.c s.vs rfl (by rw [HX.out]; omega) HC.out HO.out (by omega) (by omega) hz ?_; intro v1 w1 hown1 hgrow1 _; have hB1 := hB.grown hgrow1 hz (fun j hj => (hown.lt j hj).1))
            have HOWN := Lib.hid hown1
            have HB1 := Lib.hid hB1
            clear hown1 hB1 hgrow1 hown hB
            go_roundg (k - (j + 1))
            case measure => omega
            case rel => exact ⟨j + 1, m + x, by omega, by omega, by go_num, hl, by rw [T.out, List.length_append, ← ME.out, HX.out], by rw [T.out]; exact HOWN.out, HB1.out⟩
        · have hjk : j = k := by omega
          subst hjk
          have E : Hid (ss.take j = ss) := Lib.hid (by rw [HN.out, List.take_length])
          obtain ⟨B', c', rfl, _, _⟩ := own_form' hown
          go_wp2
          go_ret
          rw [E.out] at hown ME
          exact ⟨B', m, c', rfl, ME.out, hown, hB⟩

set_option maxHeartbeats 1000000 in
set_option maxRecDepth 100000 in
theorem growP (w : World) (n : Nat) (hn : n ≤ 100000) :
    Calls Try.prog 68 #[.slice none 0 0, .int .i64 n] w fun e w' => ∃ B c, e = .returned (.slice B 0 c) ∧ w'.ownsRow w.heap.size 22 1 (.slice B 0 c) 0 [] ∧ Below w.heap.size w w' := by
  obtain ⟨i0, hi, hz0, hz1, hz2⟩ := info_parts info22
  rcases Nat.eq_zero_or_pos n with h0 | h0
  · subst h0
    go_enter Try.func68, Try.ntmps68
    go_wp2
    go_ret
    exact ⟨none, 0, rfl, World.ownsRow_nil _ _ _ _, Below.refl _ _⟩
  · have hrz : ∀ ty, (Builtin.append_ #[85, 3] ty #[.slice none 0 0, .int .i64 (n : Int)]).run Try.prog w = _ := fun ty =>
      Lib.run_append_nil_zeros w 85 3 ty 22 i0 _ .i64 .i64 Try.underlying85 Try.underlying3 hi hz0 n h0 (by omega) (by omega) (by rw [hz2]; omega)
    obtain ⟨G, hG⟩ : ∃ G, G = grownCap w n 0 22 := ⟨_, rfl⟩
    have hGn : n ≤ G := by rw [hG]; exact grownCap_ge w _ _ _
    have hG2 : G ≤ maxLen := by rw [hG]; exact grownCap_le_maxLen w n 0 22 (by unfold maxLen; omega)
    rw [← hG] at hrz
    have HO := Lib.hid (World.ownsRow_made (base := w.heap.size) (e := 22) (size := 1) w.drew (Builtin.zeroCells (.slice none 0 0 : Value).cells n ++ Builtin.zeroCells (.slice none 0 0 : Value).cells (G - n)) G (Nat.le_refl _) hG2 (by rw [Array.size_append, size_zeroCells, size_zeroCells]; show n * 1 + (G - n) * 1 = G * 1; omega))
    have h63 : G ≤ 9223372036854775807 := by unfold maxLen at hG2; omega
    have hpos : (n : Int) > 0 := by omega
    clear hG hG2
    go_enter Try.func68, Try.ntmps68
    go_wp2_with (at_builtin; refine Lib.wpList_append_run _ rfl _ _ _ _ rfl _ _ rfl rfl _ _ (hrz _) ?_)
    go_ret
    exact ⟨_, _, rfl, HO.out, ((Below.refl _ w).drew).alloc (Nat.le_refl _) _⟩

set_option maxHeartbeats 4000000 in
set_option maxRecDepth 100000 in
theorem concatP (w : World) (F : Nat → Prop) (A : Option Addr) (n c : Nat) (ss : List Sg) (hn : n = ss.length) (hb : n ≤ 100000) (ht : (sum ss).length ≤ 100000) (h : VRd w F A (ss.map sgv)) (hs : ∀ s ∈ ss, SgAt w F s) :
    Calls Try.prog 64 #[.slice A n c] w fun e w' => ∃ B k c', e = .returned (.slice B k c') ∧ k = (sum ss).length ∧ w'.ownsRow w.heap.size 22 1 (.slice B k c') k (sum ss) ∧ Below w.heap.size w w' := by
  obtain ⟨i0, hi, hz0, hz1, hz2⟩ := info_parts info22
  have hml : (1000000 : Nat) ≤ maxLen := by unfold maxLen; omega
  have HN := Lib.hid hn
  have HT := Lib.hid ht
  have HS := Lib.hid hs
  clear hn hs ht
  go_enter Try.func64, Try.ntmps64
  go_wp2
  go_loopg [3, 11] n (fun g s3 s11 wr => ∃ (k r : Nat), k ≤ n ∧ n - k ≤ g ∧ s11 = .int .i64 k ∧ wr = w ∧ s3 = .int .i64 r ∧ r ≤ 100000 ∧ r = (sum (ss.take k)).length)
  case atStart => exact ⟨0, 0, Nat.zero_le _, by omega, rfl, rfl, rfl, by omega, by simp [sum]⟩
  case round =>
    obtain ⟨k, r, hk, hg, rfl, hwr, rfl, hr, heq⟩ := hrel
    have hwr := hwr.symm
    subst hwr
    have HE := Lib.hid heq
    clear heq
    by_cases hlt : k < n
    · obtain ⟨s, hs⟩ : ∃ s, ss[k]? = some s := ⟨_, List.getElem?_eq_getElem (by rw [← HN.out]; exact hlt)⟩
      have hs2 : (ss.map sgv)[k]? = some (sgv s) := by rw [List.getElem?_map, hs]; rfl
      obtain ⟨b1, o1, rfl, _, _, hc1⟩ := h (by rw [List.length_map, ← HN.out]; omega)
      have g1 : w.cell? ⟨b1, o1 + k, none⟩ = some (.slice s.A s.vs.length s.c) := hc1 k _ hs2
      have T := Lib.hid (sum_take ss k hs)
      have hl : r + s.vs.length ≤ 100000 := by
        have h1 := sum_take_len ss (k + 1)
        rw [T.out, List.length_append, ← HE.out] at h1
        exact Nat.le_trans h1 HT.out
      clear hc1 hs2 hs
      generalize hm : s.vs.length = m at g1 hl
      have HM := Lib.hid hm
      clear hm
      go_wp2
      go_roundg (n - (k + 1))
      case measure => omega
      case rel =>
        refine ⟨k + 1, r + m, by omega, by omega, by go_num, rfl, by go_num, hl, ?_⟩
        rw [T.out, List.length_append, HE.out, HM.out]
    · have hkn : k = n := by omega
      subst hkn
      go_wp2_with fail
      go_at_call 68
      refine (growP _ r hr).mono ?_
      rintro e w1 ⟨B, c1, rfl, hown0, hB0⟩
      clear hk hg hlt
      go_wp2
      go_loopg [6, 27] k (fun g s6 s27 wr => ∃ (j m : Nat), j ≤ k ∧ k - j ≤ g ∧ s27 = .int .i64 j ∧ m ≤ 100000 ∧ m = (sum (ss.take j)).length ∧ wr.ownsRow w.heap.size 22 1 s6 m (sum (ss.take j)) ∧ Below w.heap.size w wr)
      case atStart => exact ⟨0, 0, Nat.zero_le _, by omega, rfl, by omega, by simp [sum], by simpa [sum] using hown0, hB0⟩
      case round =>
        obtain ⟨j, m, hj, hg, rfl, hm, hme, hown, hB⟩ := hrel
        have hz := hB.size
        have ME := Lib.hid hme
        clear hme hown0 hB0
        by_cases hlt : j < k
        · obtain ⟨s, hs⟩ : ∃ s, ss[j]? = some s := ⟨_, List.getElem?_eq_getElem (by rw [← HN.out]; exact hlt)⟩
          have hs2 : (ss.map sgv)[j]? = some (sgv s) := by rw [List.getElem?_map, hs]; rfl
          obtain ⟨b1, o1, rfl, _, _, hc1⟩ := (h.below hB) (by rw [List.length_map, ← HN.out]; omega)
          have g1 : wr.cell? ⟨b1, o1 + j, none⟩ = some (.slice s.A s.vs.length s.c) := hc1 j _ hs2
          have T := Lib.hid (sum_take ss j hs)
          have hl : m + s.vs.length ≤ 100000 := by
            have h1 := sum_take_len ss (j + 1)
            rw [T.out, List.length_append, ← ME.out] at h1
            exact Nat.le_trans h1 HT.out
          have HSG := Lib.hid ((HS.out s (List.mem_of_getElem? hs)).below hB)
          clear hc1 hs2 hs
          rcases hA : s.A with _ | ad
          · have hc0 : s.c = 0 := HSG.out.nil hA
            have hv0 : s.vs = [] := by
              rcases Nat.eq_zero_or_pos s.vs.length with h0 | h0
              · exact List.eq_nil_of_length_eq_zero h0
              · obtain ⟨_, _, e, _⟩ := HSG.out.row h0
                rw [hA] at e; cases e
            rw [hA, hc0, hv0] at g1
            have T2 : Hid (sum (ss.take (j + 1)) = sum (ss.take j)) := Lib.hid (by rw [T.out, hv0, List.append_nil])
            clear hA hc0 hv0 hl
            go_wp2_with (at_builtin; refine wpList_append_own_none rfl (.tmp 31) (.tmp 32) 85 rfl w.heap.size 22 i0 1 Try.underlying85 hi _ _ _ rfl hown rfl ?_)
            go_roundg (k - (j + 1))
            case measure => omega
            case rel => exact ⟨j + 1, m, by omega, by omega, by go_num, hm, by rw [T2.out]; exact ME.out, by rw [T2.out]; exact hown, hB⟩
          · have HC := Lib.hid (HSG.out.row.cells hA)
            have HO := Lib.hid HSG.out.one
            rw [hA] at g1
            clear hA
            obtain ⟨x, hx⟩ : ∃ x, s.vs.length = x := ⟨_, rfl⟩
            have HX := Lib.hid hx
            rw [hx] at g1 hl
            clear hx
            go_wp2_with (at_builtin; refine wpList_append_own _ rfl (.tmp 31) (.tmp 32) 85 rfl w.heap.size 22 i0 (.slice none 0 0) 1 24 Try.underlying85 hi hz0 hz1 hz2 rfl (by decide) _ _ _ rfl hown ad x s.c s.vs rfl (by rw [HX.out]; omega) HC.out HO.out (by omega) (by omega) hz ?_; intro v1 w1 hown1 hgrow1 _; have hB1 := hB.grown hgrow1 hz (fun j hj => (hown.lt j hj).1))
            have HOWN := Lib.hid hown1
            have HB1 := Lib.hid hB1
            clear hown1 hB1 hgrow1 hown hB
            go_roundg (k - (j + 1))
            case measure => omega
            case rel => exact ⟨j + 1, m + x, by omega, by omega, by go_num, hl, by rw [T.out, List.length_append, ← ME.out, HX.out], by rw [T.out]; exact HOWN.out, HB1.out⟩
        · have hjk : j = k := by omega
          subst hjk
          have E : Hid (ss.take j = ss) := Lib.hid (by rw [HN.out, List.take_length])
          obtain ⟨B', c', rfl, _, _⟩ := own_form' hown
          go_wp2
          go_ret
          rw [E.out] at hown ME
          exact ⟨B', m, c', rfl, ME.out, hown, hB⟩
end Go.Proofs.Ytdbeedhedjhamaa.pce
