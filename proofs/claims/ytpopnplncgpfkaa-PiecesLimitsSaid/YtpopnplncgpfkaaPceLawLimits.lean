/- PiecesLimits, walked. -/
import Derived.Test.YtpopnplncgpfkaaPceLawNone
import Derived.Laws.IdiomStrings
namespace Go.Proofs.Ytpopnplncgpfkaa.pce
open Go.RowKit Go.Shelf Go.Lib
set_option linter.unusedVariables false
set_option linter.unusedSimpArgs false
set_option linter.unnecessarySimpa false
set_option linter.unusedSectionVars false

theorem info5 : (Try.prog.info? 5).map (fun i => (i.zero, i.size, i.bytes)) = some (some (.int .u8 0), 1, 1) := by kernel_rfl

abbrev zeros (k : Nat) : ByteArray := B (List.replicate k 0)
abbrev nilText : ByteArray := ⟨#[]⟩
theorem nl_zeros (k : Nat) : nl (zeros k) = false := by
  rw [Bool.eq_false_iff]
  intro h
  rw [nl_iff, list_B] at h
  have := List.eq_of_mem_replicate h
  exact absurd this (by decide)
theorem long_zeros (k : Nat) : long (zeros k) = decide (1000 < k) := by unfold long; rw [B_size, List.length_replicate]
theorem any_set {p : ByteArray → Bool} {e z : ByteArray} {n h : Nat} (he : p e = false) (hh : h < n) : ((List.replicate n e).set h z).any p = p z := by
  rw [Bool.eq_iff_iff, List.any_eq_true]
  constructor
  · rintro ⟨x, hx, hp⟩
    rcases List.mem_or_eq_of_mem_set hx with h1 | rfl
    · rw [List.eq_of_mem_replicate h1, he] at hp; cases hp
    · exact hp
  · intro hp
    exact ⟨z, List.mem_of_getElem? (i := h) (by rw [List.getElem?_set_self (by simpa using hh)]), hp⟩
/-- The list with one text of k zeros: what Check says. -/
theorem chk_one {n h k : Nat} (hh : h < n) : chk ((List.replicate n nilText).set h (zeros k)) = if 2000 < n ∨ 1000 < k then 3 else 0 := by
  unfold chk
  rw [any_set (p := nl) (by decide) hh, nl_zeros, any_set (p := long) (by decide) hh, long_zeros, if_neg (by simp)]
  simp
theorem fine_nils (n : Nat) : Fine (List.replicate n nilText) ↔ n ≤ 2000 := by
  constructor
  · intro h; simpa using h.1
  · intro h
    refine ⟨by simpa using h, fun z hz => ?_⟩
    rw [List.eq_of_mem_replicate hz]
    decide
theorem made_strs (n : Nat) : (madeCells (Value.string nilText).cells (n * 1)).toList = (List.replicate n nilText).map Value.string := by
  rw [Nat.mul_one, show (Value.string nilText).cells = #[.string nilText] from rfl, toList_madeCells_one, List.map_replicate]
theorem made_bytes (k : Nat) : (madeCells (Value.int .u8 0).cells (k * 1)).toList = List.replicate k (Value.int .u8 0) := by
  rw [Nat.mul_one, show (Value.int .u8 0).cells = #[.int .u8 0] from rfl, toList_madeCells_one]
theorem conv_zeros (w : World) (g k : Nat) (h : w.ownsRow g 5 1 (.slice (some ⟨g, 0, none⟩) k k) k (List.replicate k (Value.int .u8 0))) :
    (convert 55 9 (.slice (some ⟨g, 0, none⟩) k k)).run Try.prog w = .ok (.string (zeros k)) w := by
  have hc := run_convert_bytes_back (P := Try.prog) w 55 9 5 ⟨g, 0, none⟩ k (List.replicate k 0) Try.underlying55 Try.underlying5 Try.underlying9 (fun j hj => by
    have hj' : j < k := by simpa using hj
    have := h.cells (g := g) rfl j (.int .u8 0) (by rw [List.getElem?_replicate, if_pos hj'])
    rw [this]; simp)
  rw [List.length_replicate] at hc
  exact hc
/-- make where its guard is met. -/
theorem wpList_make_met {P : Program} (w : World) {ops : Array Oper} {rest : List Oper} {o : Oper} {a : Act} {Q : Exit → Act → World → Prop}
    (hw : Region.wanted o (yielded ops a.tmps) = true) (l c : Operand) (t : TypeId) (hop : o.op = Op.makeSlice t l c)
    (base : Nat) (e : TypeId) (i : TypeInfo) (z : Value) (size : Nat) (h1 : P.underlying t = some (.slice e)) (h2 : P.info? e = some i) (h3 : i.zero = some z) (h4 : i.size = size)
    (kl kc : IntKind) (L C : Int) (n : Nat) (hl : a.eval l = .int kl L) (hc : a.eval c = .int kc C) (hL : L = (n : Int)) (hC : C = (n : Int)) (b2 : i.bytes * n ≤ 281474976710656) (b3 : n ≤ maxLen) (b4 : base ≤ w.heap.size)
    (hK : ∀ w', w'.ownsRow base e size (.slice (some ⟨w.heap.size, 0, none⟩) n n) n (madeCells z.cells (n * size)).toList → w.grownBy w' none → wpList P ops Q rest (a.put o.dst (.slice (some ⟨w.heap.size, 0, none⟩) n n)) w') :
    wpList P ops Q (o :: rest) a w := by
  refine wpList_step fun K hK' => ?_
  simp only [hw, if_true]
  obtain ⟨w', hrun, r1, r2⟩ := run_make_full (P := P) w base t e i z size h1 h2 h3 h4 kl kc n b2 b3 b4
  subst hL
  subst hC
  unfold Oper.wp
  simp [execOp, hop, hl, hc, hrun, Result.andThen]
  exact hK' _ _ (hK w' r1 r2)

set_option maxHeartbeats 4000000 in
set_option maxRecDepth 100000 in
theorem law9 (a0 a1 : Int) (w : World) (w0 : (Lit.int .u8 a0).wf = true) (w1 : (Lit.int .u8 a1).wf = true) :
    Calls Try.prog 9 #[.int .u8 a0, .int .u8 a1] w fun e w' => e = .returned (.bool true) ∧ Below w.heap.size w w' := by
  have hx : 0 ≤ a0 ∧ a0 ≤ 255 := by simpa [Lit.wf, IntKind.min, IntKind.max, IntKind.signed, IntKind.bits] using w0
  have hy : 0 ≤ a1 ∧ a1 ≤ 255 := by simpa [Lit.wf, IntKind.min, IntKind.max, IntKind.signed, IntKind.bits] using w1
  clear w0 w1
  obtain ⟨hx0, hx1⟩ := hx
  obtain ⟨hy0, hy1⟩ := hy
  obtain ⟨i0, hi, hz0, hz1, hz2⟩ := info_parts info9
  obtain ⟨j0, hj, hj0, hj1, hj2⟩ := info_parts info5
  have hml : (1000000 : Nat) ≤ maxLen := by unfold maxLen; omega
  obtain ⟨n, hn⟩ : ∃ n : Nat, 1997 + a0 % 6 = (n : Int) := ⟨(1997 + a0 % 6).toNat, by omega⟩
  obtain ⟨k, hk⟩ : ∃ k : Nat, 998 + a1 % 4 = (k : Int) := ⟨(998 + a1 % 4).toNat, by omega⟩
  have b1 : 1997 ≤ n ∧ n ≤ 2002 := by omega
  have b2 : 998 ≤ k ∧ k ≤ 1001 := by omega
  obtain ⟨b11, b12⟩ := b1
  obtain ⟨b21, b22⟩ := b2
  obtain ⟨m, hm⟩ : ∃ m : Nat, m = n - 1994 := ⟨_, rfl⟩
  have HM := Lib.hid hm
  have m1 : 3 ≤ m := by omega
  have m2 : m ≤ 8 := by omega
  clear hm
  go_enter Try.func9, Try.ntmps9
  go_wp2_with (at_make; refine wpList_make_full _ rfl (.const (.int .i64 1995)) (.const (.int .i64 1995)) 22 rfl w.heap.size 9 i0 (.string nilText) 1 Try.underlying22 hi hz0 hz1 .i64 .i64 _ _ 1995 rfl rfl rfl rfl (by rw [hz2]; omega) (by omega) (Nat.le_refl _) ?_; intro w1 hown1 hgrow1; rw [made_strs] at hown1; have hB1 := (Below.refl w.heap.size w).grown hgrow1 (Nat.le_refl _) (fun k e => by cases e))
  go_at_call 13
  refine (new_yes w1 _ 1995 1995 (List.replicate 1995 nilText) (by simp) (by decide) (fun h => by cases h) ((fine_nils _).2 (by decide)) (VRd.of_own hown1).srd).mono ?_
  rintro e w2 ⟨v, ps, rfl, hT, hxx, hB2⟩
  obtain ⟨b, _, _, _, rfl, _⟩ := id hT
  have hs1 := hB1.size
  have HB2 := Lib.hid (hB1.trans (hB2.mono hs1))
  have hs2 := hB2.size
  have T2 := Lib.hid hT
  have X := Lib.hid hxx
  clear hT hxx hB1 hB2 hown1 hgrow1
  go_wp2_with (first
    | (at_make; refine wpList_make_full _ rfl (.tmp 24) (.tmp 24) 22 rfl w2.heap.size 9 i0 (.string nilText) 1 Try.underlying22 hi hz0 hz1 .i64 .i64 _ _ m rfl rfl (by have := HM.out; omega) (by have := HM.out; omega) (by rw [hz2]; omega) (by omega) (Nat.le_refl _) ?_; intro w3 hown3 hgrow3; have hs3 := hgrow3.size; have hB3 := (Below.refl w2.heap.size w2).grown hgrow3 (Nat.le_refl _) (fun k e => by cases e))
    | (at_make; refine wpList_make_full _ rfl (.tmp 27) (.tmp 27) 55 rfl w3.heap.size 5 j0 (.int .u8 0) 1 Try.underlying55 hj hj0 hj1 .i64 .i64 _ _ k rfl rfl rfl rfl (by rw [hj2]; omega) (by omega) (Nat.le_refl _) ?_; intro w4 hown4 hgrow4; rw [made_bytes] at hown4; have hcv := conv_zeros w4 w3.heap.size k hown4; have hB4 := hB3.grown hgrow4 hs3 (fun k e => by cases e); have hs4 := hB4.size; rw [made_strs] at hown3; have ho := hown3.kept hgrow4 (.inr (by simp [Value.ownBlock])); have hcell := ho.cellAt 0 (by omega); rw [List.getElem?_map, List.getElem?_replicate, if_pos (by omega)] at hcell; have hfr := ho.frozenAt 0; have hst := Lib.hid (ho.stored 0 (.string (zeros k))).1; have hB5 := hB4.setCell (p := ⟨w2.heap.size, 0, none⟩) (Nat.le_refl _) (.string (zeros k))))
  have hst1 := hst.out
  have hB6 := hB5
  obtain ⟨W5, hW5⟩ : ∃ W5, w4.setCell ⟨w2.heap.size, 0, none⟩ (.string (zeros k)) = W5 := ⟨_, rfl⟩
  rw [hW5] at hst1 hB6 ⊢
  clear hst hB5 hfr hcell ho hcv hown4 hgrow4 hown3 hgrow3 hB4 hB3 hW5
  have hst2 : W5.ownsRow w2.heap.size 9 1 (.slice (some ⟨w2.heap.size, 0, none⟩) m m) m (((List.replicate m nilText).set 0 (zeros k)).map Value.string) := by rw [List.map_set]; exact hst1
  have hs5 := hB6.size
  have T5 := Lib.hid (T2.out.below hB6)
  have LEN : Hid (((List.replicate m nilText).set 0 (zeros k)).length = m) := Lib.hid (by simp)
  have R5 := Lib.hid (VRd.of_own hst2).srd
  have CK : Hid (chk ((List.replicate m nilText).set 0 (zeros k)) = if 2000 < m ∨ 1000 < k then 3 else 0) := Lib.hid (chk_one (by omega))
  have HB5 := Lib.hid (HB2.out.trans (hB6.mono (by omega)))
  have XL : Hid ((texts ps).length = 1995) := Lib.hid (by rw [X.out]; simp)
  clear hst1 hst2 hB6 T2 HB2
  by_cases c1 : n ≤ 2000
  · by_cases c2 : k ≤ 1000
    · have hlen : (spl (texts ps) 3 1 ((List.replicate m nilText).set 0 (zeros k))).length = n := by
        rw [spl_len (by rw [XL.out]; decide), XL.out, LEN.out]; have := HM.out; omega
      refine (splice_yes W5 _ _ ps 3 1 _ m m _ LEN.out.symm (by omega) (fun h => by cases h) R5.out T5.out (by rw [XL.out]; decide) (fine_chk.1 (by rw [CK.out, if_neg (by omega)])) (by rw [hlen]; exact c1)).mono ?_
      rintro e w7 ⟨u, pu, rfl, hU7, hxu, _, hB7⟩
      obtain ⟨bu, _, _, _, rfl, _⟩ := id hU7
      have CU := Lib.hid (len_is w7 _ _ pu hU7)
      rw [hxu, hlen] at CU
      have hs7 := hB7.size
      have HB7 := Lib.hid (HB5.out.trans (hB7.mono (by omega)))
      clear hB7 hU7 hxu hlen
      go_wp2_with fail
      go_at_call 21
      refine CU.out.mono ?_
      rintro e w8 ⟨rfl, rfl⟩
      go_wp2_with (at_make; refine wpList_make_met _ (by simp [Region.wanted, yielded]) (.tmp 70) (.tmp 70) 22 rfl w7.heap.size 9 i0 (.string nilText) 1 Try.underlying22 hi hz0 hz1 .i64 .i64 _ _ n rfl rfl rfl rfl (by rw [hz2]; omega) (by omega) (Nat.le_refl _) ?_; intro w8 hown8 hgrow8; rw [made_strs] at hown8; have hs8 := hgrow8.size; have HB8 := Lib.hid (HB7.out.grown hgrow8 (by omega) (fun k e => by cases e)))
      go_at_call 13
      refine (new_yes w8 _ n n (List.replicate n nilText) (by simp) (by omega) (fun h => by cases h) ((fine_nils _).2 c1) (VRd.of_own hown8).srd).mono ?_
      rintro e w9 ⟨x, px, rfl, hX9, _, hB9⟩
      obtain ⟨bx, _, _, _, rfl, _⟩ := id hX9
      have hs9 := hB9.size
      have HB9 := Lib.hid (HB8.out.trans (hB9.mono (by omega)))
      clear hB9 hX9 hown8 hgrow8
      go_wp2_with fail
      go_at_call 16
      refine (does_is w9).mono ?_
      rintro e w10 ⟨rfl, hB10⟩
      have HB10 := Lib.hid (HB9.out.trans (hB10.mono (by omega)))
      clear hB10
      go_wp2
      go_ret
      exact ⟨rfl, HB10.out⟩
    · have E3 : Hid (splE (texts ps).length 3 1 ((List.replicate m nilText).set 0 (zeros k)) = 3) := Lib.hid (by
        have h3 : chk ((List.replicate m nilText).set 0 (zeros k)) = 3 := by rw [CK.out, if_pos (by omega)]
        unfold splE; rw [XL.out, if_neg (by decide), h3, if_pos (by decide)])
      refine (splice_is W5 _ _ ps 3 1 _ m m _ (by decide) (by decide) (by decide) (by decide) LEN.out.symm (by omega) (fun h => by cases h) R5.out T5.out).mono ?_
      rintro e w7 ⟨hB7, ⟨_, rfl⟩ | ⟨h0, _⟩⟩
      rotate_left
      · exact absurd (E3.out.symm.trans h0) (by decide)
      rw [E3.out]
      have hs7 := hB7.size
      have HB7 := Lib.hid (HB5.out.trans (hB7.mono (by omega)))
      clear hB7
      go_wp2_with (at_make; refine wpList_make_met _ (by simp [Region.wanted, yielded]) (.tmp 70) (.tmp 70) 22 rfl w7.heap.size 9 i0 (.string nilText) 1 Try.underlying22 hi hz0 hz1 .i64 .i64 _ _ n rfl rfl rfl rfl (by rw [hz2]; omega) (by omega) (Nat.le_refl _) ?_; intro w8 hown8 hgrow8; rw [made_strs] at hown8; have hs8 := hgrow8.size; have HB8 := Lib.hid (HB7.out.grown hgrow8 (by omega) (fun k e => by cases e)))
      go_at_call 13
      refine (new_yes w8 _ n n (List.replicate n nilText) (by simp) (by omega) (fun h => by cases h) ((fine_nils _).2 c1) (VRd.of_own hown8).srd).mono ?_
      rintro e w9 ⟨x, px, rfl, hX9, _, hB9⟩
      obtain ⟨bx, _, _, _, rfl, _⟩ := id hX9
      have hs9 := hB9.size
      have HB9 := Lib.hid (HB8.out.trans (hB9.mono (by omega)))
      clear hB9 hX9 hown8 hgrow8
      go_wp2_with fail
      go_at_call 16
      refine (does_is w9).mono ?_
      rintro e w10 ⟨rfl, hB10⟩
      have HB10 := Lib.hid (HB9.out.trans (hB10.mono (by omega)))
      clear hB10
      go_wp2
      go_ret
      exact ⟨rfl, HB10.out⟩
  · have E3 : Hid (splE (texts ps).length 3 1 ((List.replicate m nilText).set 0 (zeros k)) = 3) := Lib.hid (by
      unfold splE
      rw [XL.out, if_neg (by decide), LEN.out]
      by_cases c2 : k ≤ 1000
      · have h0 : chk ((List.replicate m nilText).set 0 (zeros k)) = 0 := by rw [CK.out, if_neg (by omega)]
        rw [h0, if_neg (by decide), if_pos (by have := HM.out; omega)]
      · have h3 : chk ((List.replicate m nilText).set 0 (zeros k)) = 3 := by rw [CK.out, if_pos (by omega)]
        rw [h3, if_pos (by decide)])
    by_cases c2 : k ≤ 1000
    all_goals
      refine (splice_is W5 _ _ ps 3 1 _ m m _ (by decide) (by decide) (by decide) (by decide) LEN.out.symm (by omega) (fun h => by cases h) R5.out T5.out).mono ?_
      rintro e w7 ⟨hB7, ⟨_, rfl⟩ | ⟨h0, _⟩⟩
      rotate_left
      · exact absurd (E3.out.symm.trans h0) (by decide)
      rw [E3.out]
      have hs7 := hB7.size
      have HB7 := Lib.hid (HB5.out.trans (hB7.mono (by omega)))
      clear hB7
      go_wp2_with (at_make; refine wpList_make_met _ (by simp [Region.wanted, yielded]) (.tmp 70) (.tmp 70) 22 rfl w7.heap.size 9 i0 (.string nilText) 1 Try.underlying22 hi hz0 hz1 .i64 .i64 _ _ n rfl rfl rfl rfl (by rw [hz2]; omega) (by omega) (Nat.le_refl _) ?_; intro w8 hown8 hgrow8; rw [made_strs] at hown8; have hs8 := hgrow8.size; have HB8 := Lib.hid (HB7.out.grown hgrow8 (by omega) (fun k e => by cases e)))
      go_at_call 13
      refine (new_no w8 _ n n (List.replicate n nilText) (by simp) (by omega) (fun h => c1 ((fine_nils _).1 h)) (VRd.of_own hown8).srd).mono ?_
      rintro e w9 ⟨rfl, hB9⟩
      have hs9 := hB9.size
      have HB9 := Lib.hid (HB8.out.trans (hB9.mono (by omega)))
      clear hB9 hown8 hgrow8
      go_wp2_with fail
      go_at_call 16
      refine (does_is w9).mono ?_
      rintro e w10 ⟨rfl, hB10⟩
      have HB10 := Lib.hid (HB9.out.trans (hB10.mono (by omega)))
      clear hB10
      go_wp2
      go_ret
      refine ⟨?_, HB10.out⟩
      first
        | rfl
        | (refine ret_bool ?_
           show (!decide ((n : Int) ≤ 2000)) = true
           simp
           omega)
end Go.Proofs.Ytpopnplncgpfkaa.pce
