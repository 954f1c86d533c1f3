/- The law LinesLimits, walked: for every two numbers it is true, and nothing that was there has turned. -/
import Derived.Test.YtgiffkpneloghaaLawSplit
import Derived.Laws.IdiomStrings
namespace Go.Proofs.Ytgiffkpneloghaa
open Go.RowKit Go.Shelf Go.Lib

theorem info5 : (Try.prog.info? 5).map (fun i => (i.zero, i.size, i.bytes)) = some (some (.int .u8 0), 1, 1) := by kernel_rfl

abbrev zeros (k : Nat) : ByteArray := B (List.replicate k 0)
abbrev nilText : ByteArray := ⟨#[]⟩
abbrev anb : ByteArray := ⟨#[97, 10, 98]⟩
theorem nl_zeros (k : Nat) : nl (zeros k) = false := by
  rw [Bool.eq_false_iff]
  intro h
  rw [nl_iff, list_B] at h
  have := List.eq_of_mem_replicate h
  exact absurd this (by decide)
theorem long_zeros (k : Nat) : long (zeros k) = decide (1000 < k) := by unfold long; rw [B_size, List.length_replicate]

theorem any_set {p : ByteArray → Bool} {e z : ByteArray} {n h : Nat} (he : p e = false) (hh : h < n) : ((List.replicate n e).set h z).any p = p z := by
  rw [Bool.eq_iff_iff, List.any_eq_true]
  constructor
  · rintro ⟨x, hx, hp⟩
    rcases List.mem_or_eq_of_mem_set hx with h1 | rfl
    · rw [List.eq_of_mem_replicate h1, he] at hp; cases hp
    · exact hp
  · intro hp
    exact ⟨z, List.mem_of_getElem? (i := h) (by rw [List.getElem?_set_self (by simpa using hh)]), hp⟩

/-- The list with one text of k zeros: what Check says. -/
theorem chk_one {n h k : Nat} (hh : h < n) : chk ((List.replicate n nilText).set h (zeros k)) = if 2000 < n ∨ 1000 < k then 3 else 0 := by
  unfold chk
  rw [any_set (p := nl) (by decide) hh, nl_zeros, any_set (p := long) (by decide) hh, long_zeros, if_neg (by simp)]
  simp
theorem chk_two {l : List ByteArray} {p : Nat} (hp : p < l.length) : chk (l.set p anb) = 2 := by
  unfold chk
  rw [if_pos]
  rw [List.any_eq_true]
  exact ⟨anb, List.mem_of_getElem? (i := p) (by rw [List.getElem?_set_self hp]), by decide⟩

theorem made_strs (n : Nat) : (madeCells (Value.string nilText).cells (n * 1)).toList = (List.replicate n nilText).map Value.string := by
  rw [Nat.mul_one, show (Value.string nilText).cells = #[.string nilText] from rfl, toList_madeCells_one, List.map_replicate]
theorem made_bytes (k : Nat) : (madeCells (Value.int .u8 0).cells (k * 1)).toList = List.replicate k (Value.int .u8 0) := by
  rw [Nat.mul_one, show (Value.int .u8 0).cells = #[.int .u8 0] from rfl, toList_madeCells_one]

theorem conv_zeros (w : World) (g k : Nat) (h : w.ownsRow g 5 1 (.slice (some ⟨g, 0, none⟩) k k) k (List.replicate k (Value.int .u8 0))) :
    (convert 35 9 (.slice (some ⟨g, 0, none⟩) k k)).run Try.prog w = .ok (.string (zeros k)) w := by
  have hc := run_convert_bytes_back (P := Try.prog) w 35 9 5 ⟨g, 0, none⟩ k (List.replicate k 0) Try.underlying35 Try.underlying5 Try.underlying9 (fun j hj => by
    have hj' : j < k := by simpa using hj
    have := h.cells (g := g) rfl j (.int .u8 0) (by rw [List.getElem?_replicate, if_pos hj'])
    rw [this]; simp)
  rw [List.length_replicate] at hc
  exact hc

set_option maxHeartbeats 4000000 in
set_option maxRecDepth 100000 in
theorem law8 (a0 a1 : Int) (w : World) (w0 : (Lit.int .u8 a0).wf = true) (w1 : (Lit.int .u8 a1).wf = true) :
    Calls Try.prog 8 #[.int .u8 a0, .int .u8 a1] w fun e w' => e = .returned (.bool true) ∧ Below w.heap.size w w' := by
  have hx : 0 ≤ a0 ∧ a0 ≤ 255 := by simpa [Lit.wf, IntKind.min, IntKind.max, IntKind.signed, IntKind.bits] using w0
  have hy : 0 ≤ a1 ∧ a1 ≤ 255 := by simpa [Lit.wf, IntKind.min, IntKind.max, IntKind.signed, IntKind.bits] using w1
  clear w0 w1
  obtain ⟨hx0, hx1⟩ := hx
  obtain ⟨hy0, hy1⟩ := hy
  obtain ⟨i0, hi, hz0, hz1, hz2⟩ := info_parts info9
  obtain ⟨j0, hj, hj0, hj1, hj2⟩ := info_parts info5
  have hml : (1000000 : Nat) ≤ maxLen := by unfold maxLen; omega
  obtain ⟨n, hn⟩ : ∃ n : Nat, 1998 + a0 % 5 = (n : Int) := ⟨(1998 + a0 % 5).toNat, by omega⟩
  obtain ⟨k, hk⟩ : ∃ k : Nat, 998 + a1 % 5 = (k : Int) := ⟨(998 + a1 % 5).toNat, by omega⟩
  obtain ⟨h, hh⟩ : ∃ h : Nat, (n : Int) / 2 = (h : Int) := ⟨n / 2, by omega⟩
  obtain ⟨p, hp⟩ : ∃ p : Nat, (n : Int) - 1 = (p : Int) := ⟨n - 1, by omega⟩
  have b1 : 1998 ≤ n ∧ n ≤ 2002 := by omega
  have b2 : 998 ≤ k ∧ k ≤ 1002 := by omega
  have b3 : h < n ∧ p < n := by omega
  obtain ⟨b11, b12⟩ := b1
  obtain ⟨b21, b22⟩ := b2
  obtain ⟨b31, b32⟩ := b3
  go_enter Try.func8, Try.ntmps8
  go_wp2_with (first
    | (at_make; refine wpList_make_full _ rfl (.tmp 17) (.tmp 17) 22 rfl w.heap.size 9 i0 (.string nilText) 1 Try.underlying22 hi hz0 hz1 .i64 .i64 _ _ n rfl rfl rfl rfl (by rw [hz2]; omega) (by omega) (Nat.le_refl _) ?_; intro w1 hown1 hgrow1; have hs1 := hgrow1.size; have hB1 := (Below.refl w.heap.size w).grown hgrow1 (Nat.le_refl _) (fun k e => by cases e))
    | (at_make; refine wpList_make_full _ rfl (.tmp 22) (.tmp 22) 35 rfl w1.heap.size 5 j0 (.int .u8 0) 1 Try.underlying35 hj hj0 hj1 .i64 .i64 _ _ k rfl rfl rfl rfl (by rw [hj2]; omega) (by omega) (Nat.le_refl _) ?_; intro w2 hown2 hgrow2; rw [made_bytes] at hown2; have hcv := conv_zeros w2 w1.heap.size k hown2; have hB2 := hB1.grown hgrow2 hs1 (fun k e => by cases e); have hs2 := hB2.size; rw [made_strs] at hown1; have ho := hown1.kept hgrow2 (.inr (by simp [Value.ownBlock])); have hcell := ho.cellAt h (by omega); rw [List.getElem?_map, List.getElem?_replicate, if_pos b31] at hcell; have hfr := ho.frozenAt h; have hst := Lib.hid (ho.stored h (.string (zeros k))).1; have hB3 := hB2.setCell (p := ⟨w.heap.size, h, none⟩) (Nat.le_refl _) (.string (zeros k))))
  have hst1 := hst.out
  have hB3' := hB3
  obtain ⟨W3, hW3⟩ : ∃ W3, w2.setCell ⟨w.heap.size, h, none⟩ (.string (zeros k)) = W3 := ⟨_, rfl⟩
  rw [hW3] at hst1 hB3' ⊢
  clear hst hB3 hfr hcell ho hcv hown2 hgrow2 hown1 hgrow1 hB2 hB1 hW3
  have hst2 : W3.ownsRow w.heap.size 9 1 (.slice (some ⟨w.heap.size, 0, none⟩) n n) n (((List.replicate n nilText).set h (zeros k)).map Value.string) := by rw [List.map_set]; exact hst1
  have hs3 := hB3'.size
  have HLEN : Hid (((List.replicate n nilText).set h (zeros k)).length = n) := Lib.hid (by simp)
  have hR : SRd W3 W3.heap.size (some ⟨w.heap.size, 0, none⟩) ((List.replicate n nilText).set h (zeros k)) := SRd.of_row (more := []) (m := n) (c := n) (base := w.heap.size) (by rw [List.append_nil, HLEN.out]) (by rw [List.append_nil]; exact hst2)
  have CK := Lib.hid (chk_one (k := k) b31)
  clear hst1
  by_cases c1 : n ≤ 2000
  all_goals by_cases c2 : k ≤ 1000
  all_goals
    first
      | (have CK1 : Hid (chk ((List.replicate n nilText).set h (zeros k)) = 0) := Lib.hid (by rw [CK.out, if_neg (by omega)]))
      | (have CK1 : Hid (chk ((List.replicate n nilText).set h (zeros k)) = 3) := Lib.hid (by rw [CK.out, if_pos (by omega)]))
    go_at_call 18
    refine (check18_b _ n n _ W3 _ HLEN.out.symm (by omega) CK1.out hR).mono ?_
    rintro e w4 ⟨rfl, hB4⟩
    have hs4 := hB4.size
    have ho4 := own_below hst2 hB4
    have hcell := ho4.cellAt p (by omega)
    have HP : Hid (p < ((List.replicate n nilText).set h (zeros k)).length) := Lib.hid (by rw [HLEN.out]; exact b32)
    rw [List.getElem?_map, List.getElem?_eq_getElem HP.out] at hcell
    have hfr := ho4.frozenAt p
    have hst4 := Lib.hid (ho4.stored p (.string anb)).1
    have HB4 := hB3'.trans (hB4.mono (by omega))
    have hB5 := Lib.hid (HB4.setCell (p := ⟨w.heap.size, p, none⟩) (Nat.le_refl _) (.string anb))
    clear hR hst2 hB3' hB4 ho4
    simp only [Option.map_some] at hcell
    go_wp2_with fail
    go_at_call 18
    have hst5 := hst4.out
    have hB6 := hB5.out
    obtain ⟨W5, hW5⟩ : ∃ W5, w4.setCell ⟨w.heap.size, p, none⟩ (.string anb) = W5 := ⟨_, rfl⟩
    rw [hW5] at hst5 hB6 ⊢
    clear hst4 hB5 hcell hfr hW5 HB4
    have hs5 := hB6.size
    have hst6 : W5.ownsRow w.heap.size 9 1 (.slice (some ⟨w.heap.size, 0, none⟩) n n) n ((((List.replicate n nilText).set h (zeros k)).set p anb).map Value.string) := by rw [List.map_set]; exact hst5
    have HL2 : Hid ((((List.replicate n nilText).set h (zeros k)).set p anb).length = n) := Lib.hid (by simp)
    have hR : SRd W5 W5.heap.size (some ⟨w.heap.size, 0, none⟩) (((List.replicate n nilText).set h (zeros k)).set p anb) := SRd.of_row (more := []) (m := n) (c := n) (base := w.heap.size) (by rw [List.append_nil, HL2.out]) (by rw [List.append_nil]; exact hst6)
    refine (check18_b _ n n _ W5 2 HL2.out.symm (by omega) (chk_two HP.out) hR).mono ?_
    rintro e w6 ⟨rfl, hB7⟩
    have hs6 := hB7.size
    have HB7 := hB6.trans (hB7.mono (by omega))
    clear hst5 hst6 hR hB6 hB7
    go_wp2_with fail
    go_at_call 13
    refine (does13 w6).mono ?_
    rintro e w7 ⟨rfl, hB8⟩
    have HB8 := HB7.trans (hB8.mono (by omega))
    clear HB7 hB8
    go_wp2
    go_ret
    refine ⟨?_, HB8⟩
    first
      | rfl
      | (refine ret_bool ?_
         show (!decide ((k : Int) ≤ 1000)) = true
         simp
         omega)
end Go.Proofs.Ytgiffkpneloghaa
