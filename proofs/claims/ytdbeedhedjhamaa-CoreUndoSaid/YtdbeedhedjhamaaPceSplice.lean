/- Pieces: Clone, New, against, Splice, Compact. -/
import Derived.Test.YtdbeedhedjhamaaPceTable
import Derived.Lib.SliceRun
namespace Go.Proofs.Ytdbeedhedjhamaa.pce
open Go.RowKit Go.Lib
set_option linter.unusedVariables false
set_option linter.unusedSimpArgs false
set_option linter.unnecessarySimpa false
set_option linter.unusedSectionVars false

set_option maxHeartbeats 1000000 in
set_option maxRecDepth 100000 in
theorem clone_is (w : World) (A : Option Addr) (n c : Nat) (zs : List ByteArray) (hn : n = zs.length) (hb : n ≤ 100000) (hA : A = none → c = 0) (h : SRd w w.heap.size A zs) :
    Calls Try.prog 38 #[.slice A n c] w fun e w' => ∃ x, e = .returned x ∧ Row w zs x w' := by
  rcases A with _ | ad
  · obtain rfl : c = 0 := hA rfl
    obtain rfl : zs = [] := by
      rcases Nat.eq_zero_or_pos zs.length with h0 | h0
      · exact List.eq_nil_of_length_eq_zero h0
      · obtain ⟨_, _, e, _⟩ := h h0
        cases e
    obtain rfl : n = 0 := hn
    clear h hA
    have q22 : ∀ (w : World) (a : Option Addr) (n c n' c' : Nat), (binOp .eql 22 (.slice a n c) (.slice none n' c')).run Try.prog w = .ok (.bool a.isNone) w := fun w a n c n' c' => Lib.run_eql_slice_nil w _ _ a n c n' c' Try.underlying22
    go_enter Try.func38, Try.ntmps38
    go_wp2
    go_ret
    exact ⟨_, rfl, none, 0, 0, rfl, rfl, World.ownsRow_nil _ _ _ _, Below.refl _ _⟩
  · have HN := Lib.hid hn
    clear hn
    have hL := World.ownsRow_lit (base := w.heap.size) (e := 9) (size := 1) w #[] 0 (Nat.le_refl _) (Nat.zero_le _) rfl
    have q22 : ∀ (w : World) (a : Option Addr) (n c n' c' : Nat), (binOp .eql 22 (.slice a n c) (.slice none n' c')).run Try.prog w = .ok (.bool a.isNone) w := fun w a n c n' c' => Lib.run_eql_slice_nil w _ _ a n c n' c' Try.underlying22
    go_enter Try.func38, Try.ntmps38
    go_wp2_with (at_builtin; refine wpList_append_list rfl (.tmp 5) (.tmp 6) rfl w.heap.size _ 0 [] rfl hL (some ad) n c _ zs rfl HN.out hA (h.alloc (Nat.le_refl _) _) (by omega) (by simp) ?_; intro v1 w1 hown1 hgrow1; obtain ⟨A1, c1, rfl⟩ := own_form hown1)
    have hB1 := ((Below.refl w.heap.size w).alloc (Nat.le_refl _) (.cells #[] 9)).grown hgrow1 (by simp) (fun k hk => (hL.lt k hk).1)
    go_ret
    rw [Nat.zero_add] at hown1
    exact ⟨_, rfl, A1, n, c1, by simp, HN.out, by simpa using hown1, hB1⟩

/-- A new table of a row of one's own. -/
theorem tab_new {w w1 w2 : World} {zs : List ByteArray} {B : Option Addr} {b k c base : Nat} (hP : Pcs w1 (base ≤ ·) B k c (lone b 0 zs)) (hf : Fine zs) (hb : base ≤ w1.heap.size) (he : w2 = w1.alloc (.cells #[.bool true, .slice B k c] 104)) :
    Tab w2 (base ≤ ·) (.pointer (some ⟨w1.heap.size, 0, none⟩)) (lone b 0 zs) := by
  subst he
  exact ⟨w1.heap.size, B, k, c, rfl, hb, At.new _ _ _, hP.keep (fun b _ hb => Below.heap_alloc _ _ _ hb) (by simp), by rw [lone_text]; exact hf⟩

set_option maxHeartbeats 1000000 in
set_option maxRecDepth 100000 in
theorem new_yes (w : World) (A : Option Addr) (n c : Nat) (zs : List ByteArray) (hn : n = zs.length) (hb : n ≤ 100000) (hA : A = none → c = 0) (hf : Fine zs) (h : SRd w w.heap.size A zs) :
    Calls Try.prog 39 #[.slice A n c] w fun e w' => ∃ v ps, e = .returned v ∧ Tab w' (w.heap.size ≤ ·) v ps ∧ texts ps = zs ∧ Below w.heap.size w w' := by
  have C1 := Lib.hid (check18_b A c n zs w 0 hn hb (fine_chk.2 hf) h)
  have HF := Lib.hid hf
  have HN := Lib.hid hn
  have HA := Lib.hid hA
  have HS := Lib.hid h
  clear hn hA hf h
  go_enter Try.func39, Try.ntmps39
  go_wp2_with fail
  go_at_call 41
  refine C1.out.mono ?_
  rintro e w1 ⟨rfl, hB1⟩
  have hz1 := hB1.size
  have HB1 := Lib.hid hB1
  clear C1 hB1
  go_wp2_with fail
  go_at_call 38
  refine (clone_is w1 A n c zs HN.out hb HA.out ((HS.out.below HB1.out).more hz1)).mono ?_
  rintro e w2 ⟨x, rfl, B, k, c2, rfl, hk, hown, hB2⟩
  have hz2 := hB2.size
  have HB2 := Lib.hid (HB1.out.trans (hB2.mono hz1))
  have HK := Lib.hid hk
  have HO := Lib.hid hown
  have hk2 : k ≤ 100000 := by rw [hk, ← HN.out]; exact hb
  clear hB2 hk hown HB1
  go_wp2_with fail
  go_at_call 55
  refine (onePiece_is w2 w1.heap.size B k c2 zs HK.out hk2 HO.out).mono ?_
  rintro e w3 ⟨B3, b3, k3, c3, rfl, hP3, hB3⟩
  have hz3 := hB3.size
  have HB3 := Lib.hid (HB2.out.trans (hB3.mono (by omega)))
  have HP3 := Lib.hid hP3
  clear hB3 hP3 HB2
  go_wp2_with fail
  go_at_call 54
  refine (tableOf_is w3 B3 k3 c3).mono ?_
  rintro e w4 ⟨rfl, hw4⟩
  have H4 := Lib.hid (tab_new (w := w) (HP3.out.mono (F' := (w.heap.size ≤ ·)) (fun b hb _ => by omega)) HF.out (by omega) hw4)
  have HB4 : Hid (Below w.heap.size w w4) := Lib.hid (by rw [hw4]; exact HB3.out.alloc (by omega) _)
  clear hw4
  go_wp2
  go_ret
  exact ⟨_, _, rfl, H4.out, lone_text _ _ _, HB4.out⟩
theorem new_no (w : World) (A : Option Addr) (n c : Nat) (zs : List ByteArray) (hn : n = zs.length) (hb : n ≤ 100000) (hf : ¬ Fine zs) (h : SRd w w.heap.size A zs) :
    Calls Try.prog 39 #[.slice A n c] w fun e w' => e = .returned (.pointer none) ∧ Below w.heap.size w w' := by
  obtain ⟨k, hk⟩ : ∃ k, chk zs = k := ⟨_, rfl⟩
  have C1 := Lib.hid (check18_b A c n zs w k hn hb hk h)
  have hk0 : ¬ k = 0 := fun e => hf (fine_chk.1 (hk.trans e))
  have hk1 : (k == 0) = false := by simpa using hk0
  clear hn hf h hk
  go_enter Try.func39, Try.ntmps39
  go_wp2_with fail
  go_at_call 41
  refine C1.out.mono ?_
  rintro e w1 ⟨rfl, hB1⟩
  have HB1 := Lib.hid hB1
  clear C1 hB1
  go_wp2
  go_ret
  exact ⟨rfl, HB1.out⟩

/-- The error that stands against a splice of a table of so many lines. -/
def splE (L : Nat) (at_ del : Int) (ins : List ByteArray) : Int :=
  if at_ < 0 ∨ del < 0 ∨ (L : Int) - at_ < del then 2 else if chk ins ≠ 0 then chk ins else if 2000 < (L : Int) - del + ins.length then 3 else 0
theorem splE_zero {L : Nat} {a d : Int} {ins : List ByteArray} (h : splE L a d ins = 0) : 0 ≤ a ∧ 0 ≤ d ∧ a + d ≤ L ∧ Fine ins ∧ (L : Int) - d + ins.length ≤ 2000 := by
  unfold splE at h
  split at h
  · cases h
  · split at h
    · rename_i h2; exact absurd h h2
    · split at h
      · cases h
      · rename_i h1 h2 h3
        exact ⟨by omega, by omega, by omega, fine_chk.1 (by simpa using h2), by omega⟩

set_option maxHeartbeats 2000000 in
set_option maxRecDepth 100000 in
theorem against_is (w : World) (F : Nat → Prop) (v : Value) (ps : List Pc) (a d : Int) (A : Option Addr) (n c : Nat) (ins : List ByteArray) (ha1 : -9223372036854775808 ≤ a) (ha2 : a ≤ 9223372036854775807) (hd1 : -9223372036854775808 ≤ d) (hd2 : d ≤ 9223372036854775807)
    (hn : n = ins.length) (hb : n ≤ 100000) (hs : SRd w w.heap.size A ins) (h : Tab w F v ps) :
    Calls Try.prog 63 #[v, .int .i64 a, .int .i64 d, .slice A n c] w fun e w' => e = .returned (.int .i64 (splE (texts ps).length a d ins)) ∧ Below w.heap.size w w' := by
  have C2 := Lib.hid (len_is w F v ps h)
  obtain ⟨L, hL⟩ : ∃ L, (texts ps).length = L := ⟨_, rfl⟩
  have hL2 : L ≤ 2000 := by rw [← hL]; exact h.len
  rw [hL] at C2 ⊢
  clear hL
  have C1 : Hid (Calls Try.prog 53 #[v] w fun e w' => e = .returned (.bool false) ∧ w = w') := Lib.hid (by
    obtain ⟨b, A, k, c, rfl, _, hA, _⟩ := h
    exact isNone_tab w b _ hA)
  clear h
  have C3 := Lib.hid (check18_b A c n ins w _ hn hb rfl hs)
  obtain ⟨k, hk⟩ : ∃ k, chk ins = k := ⟨_, rfl⟩
  rw [hk] at C3
  obtain ⟨z, hz⟩ : ∃ z, splE L a d ins = z := ⟨_, rfl⟩
  have HZ := Lib.hid hz
  rw [HZ.out]
  unfold splE at hz
  rw [hk, ← hn] at hz
  clear hk hn hs
  by_cases h1 : a < 0
  · obtain rfl : (2 : Int) = z := by rw [if_pos (.inl h1)] at hz; exact hz
    clear hz
    go_enter Try.func63, Try.ntmps63
    go_wp2_with (first
      | (go_at_call 53; refine C1.out.mono ?_; rintro e w1 ⟨rfl, rfl⟩)
      | (go_at_call 29; refine C2.out.mono ?_; rintro e w1 ⟨rfl, rfl⟩))
    go_ret
    exact ⟨rfl, Below.refl _ _⟩
  · by_cases h2 : d < 0
    · obtain rfl : (2 : Int) = z := by rw [if_pos (.inr (.inl h2))] at hz; exact hz
      clear hz
      go_enter Try.func63, Try.ntmps63
      go_wp2_with (first
        | (go_at_call 53; refine C1.out.mono ?_; rintro e w1 ⟨rfl, rfl⟩)
        | (go_at_call 29; refine C2.out.mono ?_; rintro e w1 ⟨rfl, rfl⟩))
      go_ret
      exact ⟨rfl, Below.refl _ _⟩
    · by_cases h3 : (L : Int) - a < d
      · obtain rfl : (2 : Int) = z := by rw [if_pos (.inr (.inr h3))] at hz; exact hz
        clear hz
        go_enter Try.func63, Try.ntmps63
        go_wp2_with (first
          | (go_at_call 53; refine C1.out.mono ?_; rintro e w1 ⟨rfl, rfl⟩)
          | (go_at_call 29; refine C2.out.mono ?_; rintro e w1 ⟨rfl, rfl⟩))
        go_ret
        exact ⟨rfl, Below.refl _ _⟩
      · rw [if_neg (by omega)] at hz
        by_cases h4 : k = 0
        · subst h4
          rw [if_neg (by simp)] at hz
          have hd3 : d ≤ 2000 := by omega
          by_cases h5 : 2000 < (L : Int) - d + n
          all_goals
            first | rw [if_pos h5] at hz | rw [if_neg h5] at hz
            subst hz
            go_enter Try.func63, Try.ntmps63
            go_wp2_with (first
              | (go_at_call 53; refine C1.out.mono ?_; rintro e w1 ⟨rfl, rfl⟩)
              | (go_at_call 29; refine C2.out.mono ?_; rintro e w1 ⟨rfl, rfl⟩)
              | (go_at_call 41; refine C3.out.mono ?_; rintro e w1 ⟨rfl, hB1⟩))
            go_ret
            exact ⟨rfl, hB1⟩
        · rw [if_pos h4] at hz
          subst hz
          have h6 : (k == 0) = false := by simpa using h4
          go_enter Try.func63, Try.ntmps63
          go_wp2_with (first
            | (go_at_call 53; refine C1.out.mono ?_; rintro e w1 ⟨rfl, rfl⟩)
            | (go_at_call 29; refine C2.out.mono ?_; rintro e w1 ⟨rfl, rfl⟩)
            | (go_at_call 41; refine C3.out.mono ?_; rintro e w1 ⟨rfl, hB1⟩))
          go_ret
          exact ⟨rfl, hB1⟩

set_option maxHeartbeats 1000000 in
theorem splice_err (w : World) (v : Value) (a d : Int) (A : Option Addr) (n c : Nat) (k : Int) (hk : ¬ k = 0)
    (C : Calls Try.prog 63 #[v, .int .i64 a, .int .i64 d, .slice A n c] w fun e w' => e = .returned (.int .i64 k) ∧ Below w.heap.size w w') :
    Calls Try.prog 50 #[v, .int .i64 a, .int .i64 d, .slice A n c] w fun e w' => e = .returned (.tuple #[.pointer none, .int .i64 k]) ∧ Below w.heap.size w w' := by
  have h6 : (k == 0) = false := by simpa using hk
  go_enter Try.func50, Try.ntmps50
  go_wp2_with fail
  go_at_call 63
  refine C.mono ?_
  rintro e w1 ⟨rfl, hB1⟩
  clear C
  go_wp2
  go_ret2
  exact ⟨rfl, hB1⟩
/-- Of one that is none: ErrNil. -/
theorem splice_no (w : World) (v : Value) (a d : Int) (A : Option Addr) (n c : Nat) (h : NoTab w v) :
    Calls Try.prog 50 #[v, .int .i64 a, .int .i64 d, .slice A n c] w fun e w' => e = .returned (.tuple #[.pointer none, .int .i64 1]) ∧ Below w.heap.size w w' := by
  refine splice_err w v a d A n c 1 (by decide) ?_
  have C1 := Lib.hid (isNone_no w v h)
  clear h
  go_enter Try.func63, Try.ntmps63
  go_wp2_with fail
  go_at_call 53
  refine C1.out.mono ?_
  rintro e w1 ⟨rfl, rfl⟩
  go_wp2
  go_ret
  exact ⟨rfl, Below.refl _ _⟩

/-- The three lists of pieces that a splice puts together. -/
theorem sg_pcs {w : World} {F : Nat → Prop} {A : Option Addr} {k c : Nat} {ps : List Pc} (h : Pcs w F A k c ps) : SgAt w F ⟨A, c, ps.map pv⟩ := ⟨h.nil, h.row, pv_one ps⟩

theorem three_text (ps : List Pc) (a d b : Nat) (ins : List ByteArray) : texts (btw 0 a ps ++ lone b 0 ins ++ btw ((a : Int) + d) ((texts ps).length : Nat) ps) = spl (texts ps) a d ins := by
  rw [texts_append, texts_append, btw_text, btw_text, lone_text]
  unfold spl
  rw [show ((a : Int) + d).toNat = a + d by omega, Int.toNat_natCast, Int.toNat_natCast, List.take_length]
  rfl
theorem concat_three (w : World) (F : Nat → Prop) (A1 A2 A3 : Option Addr) (k1 c1 k2 c2 k3 c3 : Nat) (p1 p2 p3 : List Pc) (h1 : Pcs w F A1 k1 c1 p1) (h2 : Pcs w F A2 k2 c2 p2) (h3 : Pcs w F A3 k3 c3 p3) (hl : p1.length + p2.length + p3.length ≤ 100000) :
    Calls Try.prog 64 #[.slice (some ⟨w.heap.size, 0, none⟩) 3 3] (w.alloc (.cells #[.slice A1 k1 c1, .slice A2 k2 c2, .slice A3 k3 c3] 85)) fun e w' =>
      ∃ B k c, e = .returned (.slice B k c) ∧ Pcs w' (fun b => F b ∨ w.heap.size ≤ b) B k c (p1 ++ p2 ++ p3) ∧ Below w.heap.size w w' := by
  have hB0 : Below w.heap.size w (w.alloc (.cells #[.slice A1 k1 c1, .slice A2 k2 c2, .slice A3 k3 c3] 85)) := (Below.refl _ _).alloc (Nat.le_refl _) _
  have hA := At.new w 85 #[.slice A1 k1 c1, .slice A2 k2 c2, .slice A3 k3 c3]
  obtain rfl := h1.len
  obtain rfl := h2.len
  obtain rfl := h3.len
  generalize hW : w.alloc (.cells #[.slice A1 p1.length c1, .slice A2 p2.length c2, .slice A3 p3.length c3] 85) = W at hA hB0
  have hS : sum [⟨A1, c1, p1.map pv⟩, ⟨A2, c2, p2.map pv⟩, ⟨A3, c3, p3.map pv⟩] = (p1 ++ p2 ++ p3).map pv := by simp [sum]
  have q1 := h1.below hB0
  have q2 := h2.below hB0
  have q3 := h3.below hB0
  have hz := hB0.size
  refine (concatP W (fun b => F b ∨ w.heap.size ≤ b) (some ⟨w.heap.size, 0, none⟩) 3 3 [⟨A1, c1, p1.map pv⟩, ⟨A2, c2, p2.map pv⟩, ⟨A3, c3, p3.map pv⟩] rfl (by omega) (by rw [hS, List.length_map]; simp only [List.length_append]; omega) (fun _ => ⟨w.heap.size, 0, rfl, .inr (Nat.le_refl _), hA.lt, fun j u hj => ?_⟩) ?_).mono ?_
  · rw [Nat.zero_add, hA.cell, ← hj]
    simp [sgv]
  · intro s hs
    simp only [List.mem_cons, List.not_mem_nil, or_false] at hs
    rcases hs with rfl | rfl | rfl
    · exact sg_pcs (q1.mono fun b hb _ => .inl hb)
    · exact sg_pcs (q2.mono fun b hb _ => .inl hb)
    · exact sg_pcs (q3.mono fun b hb _ => .inl hb)
  · rintro e w' ⟨B, k, c, rfl, hk, hown, hB⟩
    rw [hS] at hk hown
    obtain ⟨_, _, hv, hnil, _⟩ := own_form' hown
    refine ⟨B, k, c, rfl, ⟨by rw [hk, List.length_map], by injection hv with e1 e2 e3; subst e1 e3; exact hnil, (h1.full.append h2.full).append h3.full, (VRd.of_own hown).mono fun b hb _ => .inr (by omega), fun p hp => ?_⟩, hB0.trans (hB.mono hz)⟩
    have hp' : PcAt W F p := by
      rw [List.mem_append, List.mem_append] at hp
      rcases hp with (hp | hp) | hp
      · exact q1.each p hp
      · exact q2.each p hp
      · exact q3.each p hp
    exact (hp'.keep (fun b _ hb => hB.block b hb) hB.size).mono fun b hb _ => .inl hb

set_option maxHeartbeats 4000000 in
set_option maxRecDepth 100000 in
theorem splice_yes (w : World) (F : Nat → Prop) (v : Value) (ps : List Pc) (a d : Nat) (A : Option Addr) (n c : Nat) (ins : List ByteArray)
    (hn : n = ins.length) (hb : n ≤ 100000) (hA : A = none → c = 0) (hs : SRd w w.heap.size A ins) (h : Tab w F v ps)
    (hle : a + d ≤ (texts ps).length) (hf : Fine ins) (hm : (spl (texts ps) a d ins).length ≤ 2000) :
    Calls Try.prog 50 #[v, .int .i64 a, .int .i64 d, .slice A n c] w fun e w' =>
      ∃ v' ps', e = .returned (.tuple #[v', .int .i64 0]) ∧ Tab w' (fun b => F b ∨ w.heap.size ≤ b) v' ps' ∧ texts ps' = spl (texts ps) a d ins ∧ ps'.length ≤ ps.length + 2 ∧ Below w.heap.size w w' := by
  have hL := h.len
  have hE : splE (texts ps).length a d ins = 0 := by
    rw [spl_len hle] at hm
    unfold splE
    rw [if_neg (by omega), fine_chk.2 hf, if_neg (by simp), if_neg (by omega)]
  have C1 := Lib.hid (against_is w F v ps a d A n c ins (by omega) (by omega) (by omega) (by omega) hn hb hs h)
  rw [hE] at C1
  have HT := Lib.hid h
  have HN := Lib.hid hn
  have HS := Lib.hid hs
  have HA := Lib.hid hA
  have HF := Lib.hid hf
  have HM := Lib.hid hm
  obtain ⟨L, hLL⟩ : ∃ L, (texts ps).length = L := ⟨_, rfl⟩
  have HL := Lib.hid hLL
  rw [hLL] at hL hle
  clear hE hn hs hA hf hm h hLL
  go_enter Try.func50, Try.ntmps50
  go_wp2_with fail
  go_at_call 63
  refine C1.out.mono ?_
  rintro e w1 ⟨rfl, hB1⟩
  clear C1
  have hz1 := hB1.size
  have HB1 := Lib.hid hB1
  have HT1 := Lib.hid (HT.out.below hB1)
  clear hB1
  go_wp2_with fail
  go_at_call 46
  refine (between_is w1 F v ps 0 a (by omega) (by omega) (by omega) (by omega) HT1.out).mono ?_
  rintro e w2 ⟨A2, k2, c2, rfl, hP2, hB2⟩
  have hz2 := hB2.size
  have HB2 := Lib.hid (HB1.out.trans (hB2.mono hz1))
  have HT2 := Lib.hid (HT1.out.below hB2)
  have HP2 := Lib.hid (hP2.mono (F' := fun b => F b ∨ w.heap.size ≤ b) (fun b hb _ => hb.imp id (fun hb => by omega)))
  clear hB2 hP2 HT1 HB1
  go_wp2_with fail
  go_at_call 38
  refine (clone_is w2 A n c ins HN.out hb HA.out ((HS.out.below HB2.out).more (by omega))).mono ?_
  rintro e w3 ⟨x3, rfl, A3, k3, c3, rfl, hk3, hown3, hB3⟩
  have hz3 := hB3.size
  have HB3 := Lib.hid (HB2.out.trans (hB3.mono (by omega)))
  have HT3 := Lib.hid (HT2.out.below hB3)
  have HP3 := Lib.hid (HP2.out.below hB3)
  have HO3 := Lib.hid hown3
  have HK3 := Lib.hid hk3
  have hkb3 : k3 ≤ 100000 := by rw [hk3, ← HN.out]; exact hb
  clear hB3 hown3 hk3 HB2 HT2 HP2
  go_wp2_with fail
  go_at_call 55
  refine (onePiece_is w3 w2.heap.size A3 k3 c3 ins HK3.out hkb3 HO3.out).mono ?_
  rintro e w4 ⟨A4, b4, k4, c4, rfl, hP4, hB4⟩
  have hz4 := hB4.size
  have HB4 := Lib.hid (HB3.out.trans (hB4.mono (by omega)))
  have HT4 := Lib.hid (HT3.out.below hB4)
  have HP2 := Lib.hid (HP3.out.below hB4)
  have HP4 := Lib.hid (hP4.mono (F' := fun b => F b ∨ w.heap.size ≤ b) (fun b hb _ => .inr (by omega)))
  clear hB4 hP4 HB3 HT3 HP3 HO3 HK3
  go_wp2_with fail
  go_at_call 29
  refine (len_is w4 F v ps HT4.out).mono ?_
  rintro e w5 ⟨rfl, rfl⟩
  rw [HL.out]
  go_wp2_with fail
  go_at_call 46
  refine (between_is w4 F v ps ((a : Int) + d) L (by omega) (by omega) (by omega) (by omega) HT4.out).mono ?_
  rintro e w5 ⟨A5, k5, c5, rfl, hP5, hB5⟩
  have hz5 := hB5.size
  have HB5 := Lib.hid (HB4.out.trans (hB5.mono (by omega)))
  have HQ2 := Lib.hid (HP2.out.below hB5)
  have HQ4 := Lib.hid (HP4.out.below hB5)
  have HQ5 := Lib.hid (hP5.mono (F' := fun b => F b ∨ w.heap.size ≤ b) (fun b hb _ => hb.imp id (fun hb => by omega)))
  clear hB5 hP5 HB4 HP2 HP4 HT4
  go_wp2_with fail
  go_at_call 64
  have l1 := btw_len ps 0 a
  have l2 := btw_len ps ((a : Int) + d) L
  have l3 := lone_len b4 0 ins
  have l4 : ps.length ≤ 2000 := by have := texts_len HT.out.full; have := HT.out.len; omega
  have l5 : (lone b4 0 ins).length ≤ 1 := by rw [l3]; split <;> omega
  have l6 := btw_two ps 0 a ((a : Int) + d) L (by omega)
  refine (concat_three w5 _ A2 A4 A5 k2 c2 k4 c4 k5 c5 _ _ _ HQ2.out HQ4.out HQ5.out (by omega)).mono ?_
  rintro e w6 ⟨A6, k6, c6, rfl, hP6, hB6⟩
  have HLen : Hid ((btw 0 a ps ++ lone b4 0 ins ++ btw ((a : Int) + d) L ps).length ≤ ps.length + 2) := Lib.hid (by simp only [List.length_append]; omega)
  have hz6 := hB6.size
  have HB6 := Lib.hid (HB5.out.trans (hB6.mono (by omega)))
  have HP6 := Lib.hid (hP6.mono (F' := fun b => F b ∨ w.heap.size ≤ b) (fun b hb _ => hb.elim id (fun hb => .inr (by omega))))
  have HTX : Hid (texts (btw 0 a ps ++ lone b4 0 ins ++ btw ((a : Int) + d) L ps) = spl (texts ps) a d ins) := Lib.hid (by
    rw [← HL.out]; exact three_text ps a d b4 ins)
  clear hB6 hP6 HB5 HQ2 HQ4 HQ5 l1 l2 l3 l4 l5 l6
  go_wp2_with fail
  go_at_call 54
  refine (tableOf_is w6 A6 k6 c6).mono ?_
  rintro e w7 ⟨rfl, hw7⟩
  have HT7 : Hid (Tab w7 (fun b => F b ∨ w.heap.size ≤ b) (.pointer (some ⟨w6.heap.size, 0, none⟩)) (btw 0 a ps ++ lone b4 0 ins ++ btw ((a : Int) + d) L ps)) := Lib.hid (by
    subst hw7
    refine ⟨w6.heap.size, A6, k6, c6, rfl, .inr (by omega), At.new _ _ _, HP6.out.keep (fun b _ hb => Below.heap_alloc _ _ _ hb) (by simp), ?_⟩
    rw [HTX.out]
    exact HT.out.fine.spl HF.out a d HM.out)
  have HB7 : Hid (Below w.heap.size w w7) := Lib.hid (by rw [hw7]; exact HB6.out.alloc (by omega) _)
  clear hw7
  go_wp2
  go_ret2
  exact ⟨_, _, rfl, HT7.out, HTX.out, HLen.out, HB7.out⟩

set_option maxHeartbeats 1000000 in
set_option maxRecDepth 100000 in
/-- Splice, whatever is asked of it. -/
theorem splice_is (w : World) (F : Nat → Prop) (v : Value) (ps : List Pc) (a d : Int) (A : Option Addr) (n c : Nat) (ins : List ByteArray) (ha1 : -9223372036854775808 ≤ a) (ha2 : a ≤ 9223372036854775807) (hd1 : -9223372036854775808 ≤ d) (hd2 : d ≤ 9223372036854775807)
    (hn : n = ins.length) (hb : n ≤ 100000) (hA : A = none → c = 0) (hs : SRd w w.heap.size A ins) (h : Tab w F v ps) :
    Calls Try.prog 50 #[v, .int .i64 a, .int .i64 d, .slice A n c] w fun e w' => Below w.heap.size w w' ∧
      ((¬ splE (texts ps).length a d ins = 0 ∧ e = .returned (.tuple #[.pointer none, .int .i64 (splE (texts ps).length a d ins)])) ∨
       (splE (texts ps).length a d ins = 0 ∧ ∃ v' ps', e = .returned (.tuple #[v', .int .i64 0]) ∧ Tab w' (fun b => F b ∨ w.heap.size ≤ b) v' ps' ∧ texts ps' = spl (texts ps) a.toNat d.toNat ins ∧ ps'.length ≤ ps.length + 2)) := by
  by_cases hE : splE (texts ps).length a d ins = 0
  · obtain ⟨h1, h2, h3, h4, h5⟩ := splE_zero hE
    obtain ⟨x, rfl⟩ : ∃ x : Nat, a = x := ⟨a.toNat, by omega⟩
    obtain ⟨y, rfl⟩ : ∃ y : Nat, d = y := ⟨d.toNat, by omega⟩
    refine (splice_yes w F v ps x y A n c ins hn hb hA hs h (by omega) h4 (by rw [spl_len (by omega)]; omega)).mono ?_
    rintro e w' ⟨v', ps', rfl, hT, hx, hl, hB⟩
    exact ⟨hB, .inr ⟨hE, v', ps', rfl, hT, hx, hl⟩⟩
  · refine (splice_err w v a d A n c _ hE (against_is w F v ps a d A n c ins ha1 ha2 hd1 hd2 hn hb hs h)).mono ?_
    rintro e w' ⟨rfl, hB⟩
    exact ⟨hB, .inl ⟨hE, rfl⟩⟩

/-- How many pieces lines in one piece have. -/
def cnt (zs : List ByteArray) : Nat := if zs = [] then 0 else 1
set_option maxHeartbeats 1000000 in
set_option maxRecDepth 100000 in
/-- Compact: the same lines, in one piece. -/
theorem compact_is (w : World) (F : Nat → Prop) (v : Value) (ps : List Pc) (h : Tab w F v ps) :
    Calls Try.prog 37 #[v] w fun e w' => ∃ v' ps', e = .returned v' ∧ Tab w' (w.heap.size ≤ ·) v' ps' ∧ texts ps' = texts ps ∧ ps'.length = cnt (texts ps) ∧ Below w.heap.size w w' := by
  have HT := Lib.hid h
  have C := Lib.hid (all_is w F v ps h)
  have C1 : Hid (Calls Try.prog 53 #[v] w fun e w' => e = .returned (.bool false) ∧ w = w') := Lib.hid (by
    obtain ⟨b, A, k, c, rfl, _, hA, _⟩ := h
    exact isNone_tab w b _ hA)
  clear h
  go_enter Try.func37, Try.ntmps37
  go_wp2_with fail
  go_at_call 53
  refine C1.out.mono ?_
  rintro e w1 ⟨rfl, rfl⟩
  go_wp2_with fail
  go_at_call 44
  refine C.out.mono ?_
  rintro e w1 ⟨⟨A, n, c, rfl, hP⟩, rfl⟩
  have HP := Lib.hid hP
  clear C C1 hP
  go_wp2_with fail
  go_at_call 45
  refine (concat_pcs w F A n c ps HP.out (by have := HT.out.len; omega)).mono ?_
  rintro e w2 ⟨B2, k2, c2, rfl, hk2, hown2, hB2⟩
  have hz2 := hB2.size
  have HB2 := Lib.hid hB2
  have HK2 := Lib.hid hk2
  have HO2 := Lib.hid hown2
  have hkb : k2 ≤ 100000 := by have := HT.out.len; omega
  clear hB2 hk2 hown2
  go_wp2_with fail
  go_at_call 55
  refine (onePiece_is w2 w.heap.size B2 k2 c2 (texts ps) HK2.out hkb HO2.out).mono ?_
  rintro e w3 ⟨B3, b3, k3, c3, rfl, hP3, hB3⟩
  have hz3 := hB3.size
  have HB3 := Lib.hid (HB2.out.trans (hB3.mono hz2))
  have HP3 := Lib.hid hP3
  clear hB3 hP3 HB2
  go_wp2_with fail
  go_at_call 54
  refine (tableOf_is w3 B3 k3 c3).mono ?_
  rintro e w4 ⟨rfl, hw4⟩
  have H4 := Lib.hid (tab_new (w := w) HP3.out HT.out.fine (by omega) hw4)
  have HB4 : Hid (Below w.heap.size w w4) := Lib.hid (by rw [hw4]; exact HB3.out.alloc (by omega) _)
  clear hw4
  go_wp2
  go_ret
  exact ⟨_, _, rfl, H4.out, lone_text _ _ _, lone_len _ _ _, HB4.out⟩
/-- Of one that is none: none. -/
theorem compact_no (w : World) (v : Value) (h : NoTab w v) :
    Calls Try.prog 37 #[v] w fun e w' => e = .returned (.pointer none) ∧ w = w' := by
  have C1 := Lib.hid (isNone_no w v h)
  clear h
  go_enter Try.func37, Try.ntmps37
  go_wp2_with fail
  go_at_call 53
  refine C1.out.mono ?_
  rintro e w1 ⟨rfl, rfl⟩
  go_wp2
  go_ret
  exact ⟨rfl, rfl⟩
end Go.Proofs.Ytdbeedhedjhamaa.pce
