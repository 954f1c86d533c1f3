/- Pieces: what a table is asked by itself: isNone, all, Len, Pieces; tableOf, cut, onePiece. -/
import Derived.Test.YtpopnplncgpfkaaPceWords
namespace Go.Proofs.Ytpopnplncgpfkaa.pce
open Go.RowKit Go.Lib
set_option linter.unusedVariables false
set_option linter.unusedSimpArgs false
set_option linter.unnecessarySimpa false
set_option linter.unusedSectionVars false

/-- One that is none: nil, or a table that none of the calls made. -/
def NoTab (w : World) (v : Value) : Prop := v = .pointer none ∨ ∃ b u, v = .pointer (some ⟨b, 0, none⟩) ∧ At w b 52 #[.bool false, u]
theorem NoTab.below {w w' : World} {v : Value} (h : NoTab w v) (hB : Below w.heap.size w w') : NoTab w' v := by
  rcases h with h | ⟨b, u, h, hA⟩
  · exact .inl h
  · exact .inr ⟨b, u, h, hA.same (hB.block b hA.lt)⟩

theorem isNone_tab (w : World) (b : Nat) (u : Value) (h : At w b 52 #[.bool true, u]) :
    Calls Try.prog 40 #[.pointer (some ⟨b, 0, none⟩)] w fun e w' => e = .returned (.bool false) ∧ w = w' := by
  have h0 : w.cell? ⟨b, 0, none⟩ = some (.bool true) := h.cell 0
  clear h
  go_enter Try.func40, Try.ntmps40
  go_wp2
  go_ret
  exact ⟨rfl, rfl⟩
theorem isNone_no (w : World) (v : Value) (h : NoTab w v) :
    Calls Try.prog 40 #[v] w fun e w' => e = .returned (.bool true) ∧ w = w' := by
  rcases h with rfl | ⟨b, u, rfl, h⟩
  · go_enter Try.func40, Try.ntmps40
    go_wp2
    go_ret
    exact ⟨rfl, rfl⟩
  · have h0 : w.cell? ⟨b, 0, none⟩ = some (.bool false) := h.cell 0
    clear h
    go_enter Try.func40, Try.ntmps40
    go_wp2
    go_ret
    exact ⟨rfl, rfl⟩

theorem all_tab (w : World) (b : Nat) (u : Value) (h : At w b 52 #[.bool true, u]) :
    Calls Try.prog 37 #[.pointer (some ⟨b, 0, none⟩)] w fun e w' => e = .returned u ∧ w = w' := by
  have C := Lib.hid (isNone_tab w b u h)
  have h1 : w.cell? ⟨b, 1, none⟩ = some u := h.cell 1
  clear h
  go_enter Try.func37, Try.ntmps37
  go_wp2_with fail
  go_at_call 40
  refine C.out.mono ?_
  rintro e w1 ⟨rfl, rfl⟩
  clear C
  go_wp2
  go_ret
  exact ⟨rfl, rfl⟩
theorem all_no (w : World) (v : Value) (h : NoTab w v) :
    Calls Try.prog 37 #[v] w fun e w' => e = .returned (.slice none 0 0) ∧ w = w' := by
  have C := Lib.hid (isNone_no w v h)
  clear h
  go_enter Try.func37, Try.ntmps37
  go_wp2_with fail
  go_at_call 40
  refine C.out.mono ?_
  rintro e w1 ⟨rfl, rfl⟩
  clear C
  go_wp2
  go_ret
  exact ⟨rfl, rfl⟩
/-- all: the list of pieces that a table has. -/
theorem all_is (w : World) (F : Nat → Prop) (v : Value) (ps : List Pc) (h : Tab w F v ps) :
    Calls Try.prog 37 #[v] w fun e w' => (∃ A k c, e = .returned (.slice A k c) ∧ Pcs w F A k c ps) ∧ w = w' := by
  obtain ⟨b, A, k, c, rfl, hF, hA, hP, hL⟩ := h
  refine (all_tab w b _ hA).mono ?_
  rintro e w' ⟨rfl, rfl⟩
  exact ⟨⟨A, k, c, rfl, hP⟩, rfl⟩

theorem tableOf_is (w : World) (A : Option Addr) (k c : Nat) :
    Calls Try.prog 30 #[.slice A k c] w fun e w' => e = .returned (.pointer (some ⟨w.heap.size, 0, none⟩)) ∧ w' = w.alloc (.cells #[.bool true, .slice A k c] 52) := by
  go_enter Try.func30, Try.ntmps30
  go_wp2
  go_ret
  exact ⟨rfl, rfl⟩

/-- cut: by three indices. -/
theorem cut_is (w : World) (b off n c low high : Nat) (h1 : low < high) (h2 : high ≤ c) (h3 : c ≤ 9223372036854775807) :
    Calls Try.prog 44 #[.slice (some ⟨b, off, none⟩) n c, .int .i64 low, .int .i64 high] w fun e w' =>
      e = .returned (.slice (some ⟨b, off + low, none⟩) (high - low) (high - low)) ∧ w = w' := by
  have h4 : ¬ high = low := by omega
  go_enter Try.func44, Try.ntmps44
  go_wp2
  go_ret
  exact ⟨rfl, rfl⟩

set_option maxHeartbeats 2000000 in
set_option maxRecDepth 100000 in
/-- Len: how many lines. -/
theorem len_is (w : World) (F : Nat → Prop) (v : Value) (ps : List Pc) (h : Tab w F v ps) :
    Calls Try.prog 21 #[v] w fun e w' => e = .returned (.int .i64 ((texts ps).length : Nat)) ∧ w = w' := by
  have HL := Lib.hid h.len
  have C := Lib.hid (all_is w F v ps h)
  clear h
  go_enter Try.func21, Try.ntmps21
  go_wp2_with fail
  go_at_call 37
  refine C.out.mono ?_
  rintro e w1 ⟨⟨A, n, c, rfl, hP⟩, rfl⟩
  clear C
  have HP := Lib.hid hP
  have hn : n ≤ 2000 := by have := texts_len hP.full; have := HL.out; rw [hP.len]; omega
  clear hP
  go_wp2
  go_loopg [3, 9] n (fun g s3 s9 wr => ∃ (k r : Nat), k ≤ n ∧ n - k ≤ g ∧ s9 = .int .i64 k ∧ wr = w ∧ s3 = .int .i64 r ∧ r ≤ 2000 ∧ r = (texts (ps.take k)).length)
  case atStart => exact ⟨0, 0, Nat.zero_le _, by omega, rfl, rfl, rfl, by omega, by simp [texts]⟩
  case round =>
    obtain ⟨k, r, hk, hg, rfl, rfl, rfl, hr, heq⟩ := hrel
    have HE := Lib.hid heq
    clear heq
    by_cases hlt : k < n
    · obtain ⟨p, hp⟩ : ∃ p, ps[k]? = some p := ⟨_, List.getElem?_eq_getElem (by rw [← HP.out.len]; exact hlt)⟩
      have hp2 : (ps.map pv)[k]? = some (pv p) := by rw [List.getElem?_map, hp]; rfl
      obtain ⟨b1, o1, rfl, _, _, hc1⟩ := HP.out.row (by rw [List.length_map, ← HP.out.len]; omega)
      have g1 : wr.cell? ⟨b1, o1 + k, none⟩ = some (.slice (some ⟨p.blk, p.off, none⟩) p.l.length p.l.length) := hc1 k _ hp2
      have T := Lib.hid (texts_take ps k hp)
      have hl : r + p.l.length ≤ 2000 := by
        have h1 := texts_take_len ps (k + 1)
        rw [T.out, List.length_append, ← HE.out] at h1
        exact Nat.le_trans h1 HL.out
      have HLL := Lib.hid hl
      have hl2 : p.l.length ≤ 2000 := by omega
      clear hc1 hp2 hp
      generalize hm : p.l.length = m at g1 hl hl2
      have HM := Lib.hid hm
      clear hm
      go_wp2
      go_roundg (n - (k + 1))
      case measure => omega
      case rel =>
        refine ⟨k + 1, r + m, by omega, by omega, by go_num, rfl, by go_num, hl, ?_⟩
        rw [T.out, List.length_append, HE.out, HM.out]
    · have hkn : k = n := by omega
      subst hkn
      have HR : Hid (r = (texts ps).length) := Lib.hid (by rw [HE.out, HP.out.len, List.take_length])
      go_wp2
      go_ret
      exact ⟨by rw [← HR.out]; rfl, rfl⟩
theorem len_no (w : World) (v : Value) (h : NoTab w v) :
    Calls Try.prog 21 #[v] w fun e w' => e = .returned (.int .i64 0) ∧ w = w' := by
  have C := Lib.hid (all_no w v h)
  clear h
  go_enter Try.func21, Try.ntmps21
  go_wp2_with fail
  go_at_call 37
  refine C.out.mono ?_
  rintro e w1 ⟨rfl, rfl⟩
  clear C
  go_wp2
  go_loopg [3, 9] 0 (fun g s3 s9 wr => s9 = .int .i64 0 ∧ wr = w ∧ s3 = .int .i64 0)
  case atStart => exact ⟨rfl, rfl, rfl⟩
  case round =>
    obtain ⟨rfl, rfl, rfl⟩ := hrel
    go_wp2
    go_ret
    exact ⟨rfl, rfl⟩

/-- Pieces: how many. -/
theorem pieces_is (w : World) (F : Nat → Prop) (v : Value) (ps : List Pc) (h : Tab w F v ps) :
    Calls Try.prog 28 #[v] w fun e w' => e = .returned (.int .i64 (ps.length : Nat)) ∧ w = w' := by
  have C := Lib.hid (all_is w F v ps h)
  clear h
  go_enter Try.func28, Try.ntmps28
  go_wp2_with fail
  go_at_call 37
  refine C.out.mono ?_
  rintro e w1 ⟨⟨A, n, c, rfl, hP⟩, rfl⟩
  have hn := Lib.hid hP.len
  clear C hP
  go_wp2
  go_ret
  exact ⟨by show Ending.returned (.int .i64 (n : Int)) = _; rw [hn.out], rfl⟩
theorem pieces_no (w : World) (v : Value) (h : NoTab w v) :
    Calls Try.prog 28 #[v] w fun e w' => e = .returned (.int .i64 0) ∧ w = w' := by
  have C := Lib.hid (all_no w v h)
  clear h
  go_enter Try.func28, Try.ntmps28
  go_wp2_with fail
  go_at_call 37
  refine C.out.mono ?_
  rintro e w1 ⟨rfl, rfl⟩
  clear C
  go_wp2
  go_ret
  exact ⟨rfl, rfl⟩

/-- The pieces that one list of lines makes: one, or none. -/
def lone (b o : Nat) (zs : List ByteArray) : List Pc := if zs = [] then [] else [⟨b, o, zs⟩]
theorem lone_text (b o : Nat) (zs : List ByteArray) : texts (lone b o zs) = zs := by
  unfold lone; split
  · rename_i h; rw [h]; rfl
  · rw [texts_one]
theorem lone_len (b o : Nat) (zs : List ByteArray) : (lone b o zs).length = if zs = [] then 0 else 1 := by unfold lone; split <;> rfl
theorem lone_full (b o : Nat) (zs : List ByteArray) : Full (lone b o zs) := by
  unfold lone; split
  · exact Full.nil
  · rename_i h; exact Full.one h

set_option maxHeartbeats 1000000 in
/-- onePiece, of a row of one's own. -/
theorem onePiece_is (w : World) (base : Nat) (A : Option Addr) (n c : Nat) (zs : List ByteArray) (hn : n = zs.length) (hb : n ≤ 100000) (h : w.ownsRow base 9 1 (.slice A n c) n (zs.map Value.string)) :
    Calls Try.prog 31 #[.slice A n c] w fun e w' => ∃ B b k c', e = .returned (.slice B k c') ∧ Pcs w' (base ≤ ·) B k c' (lone b 0 zs) ∧ Below w.heap.size w w' := by
  rcases Nat.eq_zero_or_pos n with h0 | h0
  · subst h0
    obtain rfl : zs = [] := List.eq_nil_of_length_eq_zero hn.symm
    clear h hn
    go_enter Try.func31, Try.ntmps31
    go_wp2
    go_ret
    exact ⟨none, 0, 0, 0, rfl, ⟨rfl, fun _ => rfl, Full.nil, VRd.nil, fun p hp => by cases hp⟩, Below.refl _ _⟩
  · obtain ⟨g, cap, hv, hbg, hgl⟩ := h.form (by omega)
    obtain ⟨rfl, rfl⟩ : A = some ⟨g, 0, none⟩ ∧ c = cap := by injection hv with h1 _ h2; exact ⟨h1, h2⟩
    have hcap := own_cap h
    have HC := Lib.hid (VRd.of_own h)
    have HN := Lib.hid hn
    have h63 : c ≤ 9223372036854775807 := by have := hcap.2; unfold maxLen at this; omega
    have hnc := hcap.1
    clear hv hcap h hn
    have C := fun W => cut_is W g 0 n c 0 n h0 hnc h63
    go_enter Try.func31, Try.ntmps31
    go_wp2_with fail
    go_at_call 44
    refine (C _).mono ?_
    rintro e w1 ⟨rfl, rfl⟩
    clear C
    go_wp2
    go_ret
    have hz : zs ≠ [] := fun e => by rw [e] at HN; have := HN.out; simp at this; omega
    refine ⟨_, g, 1, 1, rfl, ?_, (Below.refl _ _).alloc (Nat.le_refl _) _⟩
    unfold lone
    rw [if_neg hz]
    refine ⟨rfl, (fun h => (by cases h)), Full.one hz, fun _ => ⟨w.heap.size, 0, rfl, by omega, by simp, fun j u hj => ?_⟩, fun p hp => ?_⟩
    · match j, hj with
      | 0, hj =>
        simp only [List.map_cons, List.map_nil, List.getElem?_cons_zero, Option.some.injEq] at hj
        rw [← hj]
        unfold pv
        rw [← HN.out]
        exact (At.new _ _ _).cell 0
      | j + 1, hj => simp at hj
    · rw [List.mem_singleton.1 hp]
      exact PcAt.keep ⟨hbg, hgl, fun j u hj => by
        obtain ⟨b, o, e, _, _, h⟩ := HC.out (by rw [List.length_map, ← HN.out]; exact h0)
        injection e with e
        injection e with e1 e2
        subst e1 e2
        exact h j u hj⟩ (fun b _ hb => Below.heap_alloc _ _ _ hb) (by simp)
end Go.Proofs.Ytpopnplncgpfkaa.pce
