/- Pieces: New, Lines, Line, Text, Compact. -/
import Derived.Test.YtdbeedhedjhamaaPceConcat
namespace Go.Proofs.Ytdbeedhedjhamaa.pce
open Go.RowKit Go.Lib
set_option linter.unusedVariables false
set_option linter.unusedSimpArgs false
set_option linter.unnecessarySimpa false
set_option linter.unusedSectionVars false

/-- A piece as one of the slices that are put together. -/
def psg (p : Pc) : Sg := ⟨some ⟨p.blk, p.off, none⟩, p.l.length, p.l.map Value.string⟩
theorem psg_sgv (ps : List Pc) : (ps.map psg).map sgv = ps.map pv := by
  rw [List.map_map]
  refine List.map_congr_left fun p _ => ?_
  simp [psg, sgv, pv]
theorem psg_sum (ps : List Pc) : sum (ps.map psg) = (texts ps).map Value.string := by
  induction ps with
  | nil => rfl
  | cons p r ih =>
    rw [texts_cons, List.map_append, ← ih]
    simp [sum, psg]
/-- All texts of a list of pieces, put together. -/
theorem concat_pcs (w : World) (F : Nat → Prop) (A : Option Addr) (n c : Nat) (ps : List Pc) (h : Pcs w F A n c ps) (ht : (texts ps).length ≤ 100000) :
    Calls Try.prog 45 #[.slice A n c] w fun e w' => ∃ B k c', e = .returned (.slice B k c') ∧ k = (texts ps).length ∧ w'.ownsRow w.heap.size 9 1 (.slice B k c') k ((texts ps).map Value.string) ∧ Below w.heap.size w w' := by
  have hl := texts_len h.full
  refine (concatT w F A n c (ps.map psg) (by rw [List.length_map]; exact h.len) (by have := h.len; omega) (by rw [psg_sum, List.length_map]; exact ht) (by rw [psg_sgv]; exact h.row) ?_).mono ?_
  · intro s hs
    obtain ⟨p, hp, rfl⟩ := List.mem_map.1 hs
    exact ⟨fun h => (by cases h), (h.each p hp).vrd, one_strs _⟩
  · rintro e w' ⟨B, k, c', rfl, hk, hown, hB⟩
    rw [psg_sum] at hk hown
    exact ⟨B, k, c', rfl, by rw [hk, List.length_map], hown, hB⟩

/-- A list of texts in a row of its own, behind what was there. -/
def Row (w : World) (zs : List ByteArray) (v : Value) (w' : World) : Prop :=
  ∃ B k c, v = .slice B k c ∧ k = zs.length ∧ w'.ownsRow w.heap.size 9 1 (.slice B k c) k (zs.map Value.string) ∧ Below w.heap.size w w'

set_option maxHeartbeats 1000000 in
set_option maxRecDepth 100000 in
/-- Lines: those of the numbers from a up to u. -/
theorem lines_is (w : World) (F : Nat → Prop) (v : Value) (ps : List Pc) (a u : Int) (ha1 : -9223372036854775808 ≤ a) (ha2 : a ≤ 9223372036854775807) (hu1 : -9223372036854775808 ≤ u) (hu2 : u ≤ 9223372036854775807) (h : Tab w F v ps) :
    Calls Try.prog 32 #[v, .int .i64 a, .int .i64 u] w fun e w' => ∃ x, e = .returned x ∧ Row w (((texts ps).take u.toNat).drop (a - 1).toNat) x w' := by
  obtain ⟨a', ha'⟩ : ∃ a', max a 1 = a' := ⟨_, rfl⟩
  obtain ⟨u', hu'⟩ : ∃ u', max u 0 = u' := ⟨_, rfl⟩
  have hA : 1 ≤ a' ∧ a' ≤ 9223372036854775807 := by omega
  have hU : 0 ≤ u' ∧ u' ≤ 9223372036854775807 := by omega
  obtain ⟨hA1, hA2⟩ := hA
  obtain ⟨hU1, hU2⟩ := hU
  have E : Hid (((texts ps).take u'.toNat).drop (a' - 1).toNat = ((texts ps).take u.toNat).drop (a - 1).toNat) := Lib.hid (by
    rw [show u'.toNat = u.toNat by omega, show (a' - 1).toNat = (a - 1).toNat by omega])
  have HL := Lib.hid h.len
  have C := Lib.hid (between_is w F v ps (a' - 1) u' (by omega) (by omega) hU1 hU2 h)
  clear h
  go_enter Try.func32, Try.ntmps32
  go_wp2_with fail
  go_at_call 46
  refine C.out.mono ?_
  rintro e w1 ⟨B, k, c, rfl, hP, hB⟩
  have hz := hB.size
  have HB := Lib.hid hB
  have T := Lib.hid (btw_text ps (a' - 1) u')
  have hl : (texts (btw (a' - 1) u' ps)).length ≤ 100000 := by
    rw [T.out, List.length_drop, List.length_take]; have := HL.out; omega
  have HP := Lib.hid hP
  clear C hB hP
  go_wp2_with fail
  go_at_call 45
  refine (concat_pcs w1 _ B k c _ HP.out hl).mono ?_
  rintro e w2 ⟨B2, k2, c2, rfl, hk2, hown2, hB2⟩
  rw [T.out, E.out] at hk2 hown2
  have H2 := Lib.hid (And.intro hk2 (And.intro hown2 hB2))
  clear hk2 hown2 hB2
  go_wp2
  go_ret
  obtain ⟨h1, h2, h3⟩ := H2.out
  exact ⟨_, rfl, B2, k2, c2, rfl, h1, ⟨h2.1, by
    rcases h2.2 with h0 | ⟨g, cap, cur, hv, hg, r⟩
    · exact .inl h0
    · exact .inr ⟨g, cap, cur, hv, by omega, r⟩⟩, HB.out.trans (h3.mono hz)⟩

/-- Of one that is none: no lines. -/
theorem lines_no (w : World) (v : Value) (a u : Int) (ha1 : -9223372036854775808 ≤ a) (ha2 : a ≤ 9223372036854775807) (hu1 : -9223372036854775808 ≤ u) (hu2 : u ≤ 9223372036854775807) (h : NoTab w v) :
    Calls Try.prog 32 #[v, .int .i64 a, .int .i64 u] w fun e w' => ∃ x, e = .returned x ∧ Row w [] x w' := by
  obtain ⟨a', ha'⟩ : ∃ a', max a 1 = a' := ⟨_, rfl⟩
  obtain ⟨u', hu'⟩ : ∃ u', max u 0 = u' := ⟨_, rfl⟩
  have hA : 1 ≤ a' ∧ a' ≤ 9223372036854775807 := by omega
  have hU : 0 ≤ u' ∧ u' ≤ 9223372036854775807 := by omega
  obtain ⟨hA1, hA2⟩ := hA
  obtain ⟨hU1, hU2⟩ := hU
  have C := Lib.hid (between_no w v (a' - 1) u' h)
  clear h
  go_enter Try.func32, Try.ntmps32
  go_wp2_with fail
  go_at_call 46
  refine C.out.mono ?_
  rintro e w1 ⟨rfl, rfl⟩
  clear C
  go_wp2_with fail
  go_at_call 45
  refine (concat_pcs w (fun _ => False) none 0 0 [] ⟨rfl, fun _ => rfl, Full.nil, VRd.nil, fun p hp => by cases hp⟩ (by simp [texts])).mono ?_
  rintro e w2 ⟨B2, k2, c2, rfl, hk2, hown2, hB2⟩
  have H2 := Lib.hid (And.intro hk2 (And.intro hown2 hB2))
  clear hk2 hown2 hB2
  go_wp2
  go_ret
  obtain ⟨h1, h2, h3⟩ := H2.out
  exact ⟨_, rfl, B2, k2, c2, rfl, h1, h2, h3⟩

/-- The line of a number. -/
def lineAt (L : List ByteArray) (i : Int) : Option ByteArray := if 1 ≤ i then L[(i - 1).toNat]? else none
theorem line_list (L : List ByteArray) (i : Int) : (L.take i.toNat).drop (i - 1).toNat = (lineAt L i).toList := by
  unfold lineAt
  split
  · rename_i h
    obtain ⟨k, hk⟩ : ∃ k : Nat, (i - 1).toNat = k := ⟨_, rfl⟩
    rw [hk, show i.toNat = k + 1 by omega]
    cases e : L[k]? with
    | none =>
      have : L.length ≤ k := List.getElem?_eq_none_iff.1 e
      rw [List.drop_of_length_le (by rw [List.length_take]; omega)]; rfl
    | some s =>
      obtain ⟨hl, rfl⟩ := List.getElem?_eq_some_iff.1 e
      rw [List.take_succ_eq_append_getElem hl, List.drop_append_of_le_length (by rw [List.length_take]; omega), List.drop_of_length_le (by rw [List.length_take]; omega)]; rfl
  · rw [show i.toNat = 0 by omega]; simp
/-- What Line tells. -/
def told (o : Option ByteArray) : Ending := .returned (.tuple #[.string (o.getD ⟨#[]⟩), .bool o.isSome])

set_option maxHeartbeats 1000000 in
set_option maxRecDepth 100000 in
theorem line_of (w : World) (v : Value) (i : Int) (o : Option ByteArray) (C : Calls Try.prog 32 #[v, .int .i64 i, .int .i64 i] w fun e w' => ∃ x, e = .returned x ∧ Row w o.toList x w') :
    Calls Try.prog 31 #[v, .int .i64 i] w fun e w' => e = told o ∧ Below w.heap.size w w' := by
  go_enter Try.func31, Try.ntmps31
  go_wp2_with fail
  go_at_call 32
  refine C.mono ?_
  rintro e w1 ⟨x, rfl, B, k, c, rfl, hk, hown, hB⟩
  have HB := Lib.hid hB
  clear hB C
  cases o with
  | none =>
    have hk0 : k = 0 := by simpa using hk
    subst hk0
    clear hown hk
    go_wp2
    go_ret2
    exact ⟨rfl, HB.out⟩
  | some s =>
    have hk1 : k = 1 := by simpa using hk
    subst hk1
    have R := VRd.of_own hown
    obtain ⟨b, off, rfl, _, _, hc⟩ := R (by simp)
    have g1 : w1.cell? ⟨b, off, none⟩ = some (.string s) := by have := hc 0 (.string s) (by simp); simpa using this
    clear hown hk R hc
    go_wp2
    go_ret2
    exact ⟨rfl, HB.out⟩
theorem line_is (w : World) (F : Nat → Prop) (v : Value) (ps : List Pc) (i : Int) (h1 : -9223372036854775808 ≤ i) (h2 : i ≤ 9223372036854775807) (h : Tab w F v ps) :
    Calls Try.prog 31 #[v, .int .i64 i] w fun e w' => e = told (lineAt (texts ps) i) ∧ Below w.heap.size w w' :=
  line_of w v i _ (by rw [← line_list]; exact lines_is w F v ps i i h1 h2 h1 h2 h)
theorem line_no (w : World) (v : Value) (i : Int) (h1 : -9223372036854775808 ≤ i) (h2 : i ≤ 9223372036854775807) (h : NoTab w v) :
    Calls Try.prog 31 #[v, .int .i64 i] w fun e w' => e = told none ∧ Below w.heap.size w w' :=
  line_of w v i none (lines_no w v i i h1 h2 h1 h2 h)

end Go.Proofs.Ytdbeedhedjhamaa.pce
