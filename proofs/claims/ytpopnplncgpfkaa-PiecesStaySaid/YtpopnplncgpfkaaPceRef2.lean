/- Pieces: the document's Splice of a list, walked. -/
import Derived.Test.YtpopnplncgpfkaaPceRef
import Derived.Deep.RegionHeld3
namespace Go.Proofs.Ytpopnplncgpfkaa.pce
open Go.RowKit Go.Lib
set_option linter.unusedVariables false
set_option linter.unusedSimpArgs false
set_option linter.unnecessarySimpa false
set_option linter.unusedSectionVars false

/-- The document's Check, as a number. -/
theorem refChk (A : Option Addr) (c n : Nat) (zs : List ByteArray) (w : World) (k : Int) (hk : chk zs = k) (hn : n = zs.length) (hb : n ≤ 100000) (hz : ∀ z ∈ zs, z.size ≤ maxLen) (h : SRd w w.heap.size A zs) :
    Calls Try.prog 15 #[.slice A n c] w fun e w' => e = .returned (.int .i64 k) ∧ w = w' := by
  subst hk
  exact refCheck19 A c n _ zs w hn hb hz h

theorem owns_drew {w : World} {base n : Nat} {e : TypeId} {v : Value} {xs : List Value} (h : w.ownsRow base e 1 v n xs) : w.drew.ownsRow base e 1 v n xs := h
def More (p : Nat) (wb W : World) : Prop := Below p wb W
theorem More.to {p : Nat} {wb W : World} (h : More p wb W) : Below p wb W := h
theorem eq_two {k : Int} (h : k = 2) : (k == 2) = true := by subst h; rfl

set_option maxHeartbeats 4000000 in
set_option maxRecDepth 100000 in
/-- Where an argument may not be. -/
theorem refSplice_two (w : World) (F : Nat → Prop) (A : Option Addr) (n c : Nat) (L : List ByteArray) (a d : Int) (B : Option Addr) (m c' : Nat) (ins : List ByteArray) (ha1 : -9223372036854775808 ≤ a) (ha2 : a ≤ 9223372036854775807) (hd1 : -9223372036854775808 ≤ d) (hd2 : d ≤ 9223372036854775807)
    (hn : n ≤ 100000) (hm : m = ins.length) (hmb : m ≤ 100000) (hz : ∀ z ∈ ins, z.size ≤ maxLen) (hi : SRd w w.heap.size B ins) (hE : a < 0 ∨ d < 0 ∨ (n : Int) - a < d ∨ chk ins = 2) :
    Calls Try.prog 18 #[.slice A n c, .int .i64 a, .int .i64 d, .slice B m c'] w fun e w' => e = .returned (.tuple #[.slice none 0 0, .int .i64 2]) ∧ w = w' := by
  obtain ⟨k, hk⟩ : ∃ k, chk ins = k := ⟨_, rfl⟩
  have C := Lib.hid (refChk B c' m ins w k hk hm hmb hz hi)
  rw [hk] at hE
  clear hm hz hi hk
  by_cases h1 : a < 0
  · go_enter Try.func18, Try.ntmps18
    go_wp2_with (go_at_call 15; refine C.out.mono ?_; rintro e w1 ⟨rfl, rfl⟩)
    go_ret2
    exact ⟨rfl, rfl⟩
  by_cases h2 : d < 0
  · go_enter Try.func18, Try.ntmps18
    go_wp2_with (go_at_call 15; refine C.out.mono ?_; rintro e w1 ⟨rfl, rfl⟩)
    go_ret2
    exact ⟨rfl, rfl⟩
  by_cases h3 : a > n
  · go_enter Try.func18, Try.ntmps18
    go_wp2_with (go_at_call 15; refine C.out.mono ?_; rintro e w1 ⟨rfl, rfl⟩)
    go_ret2
    exact ⟨rfl, rfl⟩
  by_cases h4 : d > (n : Int) - a
  · go_enter Try.func18, Try.ntmps18
    go_wp2_with (go_at_call 15; refine C.out.mono ?_; rintro e w1 ⟨rfl, rfl⟩)
    go_ret2
    exact ⟨rfl, rfl⟩
  obtain rfl : k = 2 := by omega
  clear hE
  go_enter Try.func18, Try.ntmps18
  go_wp2_with (go_at_call 15; refine C.out.mono ?_; rintro e w1 ⟨rfl, rfl⟩)
  go_ret2
  exact ⟨rfl, rfl⟩

/-- An error, or the new list. -/
def MoreSays (w : World) (L ins : List ByteArray) (a d n m : Nat) (k : Int) (e : Ending) (w' : World) : Prop := Below w.heap.size w w' ∧
  (((k ≠ 0 ∨ 2000 < n - d + m) ∧ e = .returned (.tuple #[.slice none 0 0, .int .i64 3])) ∨ (k = 0 ∧ n - d + m ≤ 2000 ∧ ∃ v, e = .returned (.tuple #[v, .int .i64 0]) ∧ Row w (spl L a d ins) v w'))
set_option maxHeartbeats 4000000 in
set_option maxRecDepth 100000 in
theorem refSplice_more (w : World) (F : Nat → Prop) (A : Option Addr) (n c : Nat) (L : List ByteArray) (a d : Nat) (B : Option Addr) (m c' : Nat) (ins : List ByteArray)
    (hn : n ≤ 2000) (hmb : m ≤ 10000) (hz : ∀ z ∈ ins, z.size ≤ maxLen) (hL : Lst w F A n c L) (hi : Lst w F B m c' ins) (hle : a + d ≤ n) (h2 : ¬ chk ins = 2) (k : Int) (hk : chk ins = k) :
    Calls Try.prog 18 #[.slice A n c, .int .i64 a, .int .i64 d, .slice B m c'] w fun e w' => MoreSays w L ins a d n m k e w' := by
  have C := Lib.hid (fun (W : World) (hW : Below w.heap.size w W) => refChk B c' m ins W k hk hi.len (by omega) hz ((hi.below hW).srd))
  have hk2 : (k == 2) = false := by rw [← hk]; simpa using h2
  have e0 : (n : Int) - a = ((n - a : Nat) : Int) := by omega
  have h4 : ¬ ((d : Int) > (n : Int) - a) := by omega
  have h3 : ¬ ((a : Int) > n) := by omega
  have h5 : (a : Int) + d = ((a + d : Nat) : Int) := by omega
  have S1 := fun W => head_slice A n c a (by have := hL.room; omega) W
  have S2 := fun W => tail_slice A n c (a + d) (n - (a + d)) (by omega) W
  have HL := Lib.hid hL
  have HI := Lib.hid hi
  have hL0 := World.ownsRow_lit (base := w.heap.size) (e := 9) (size := 1) w #[] 0 (Nat.le_refl _) (Nat.zero_le _) rfl
  clear hL hi hz hk h2
  go_enter Try.func18, Try.ntmps18
  go_wp2_with (first
    | (go_at_call 15; refine (C.out w (Below.refl _ _)).mono ?_; rintro e w1 ⟨rfl, rfl⟩)
    | (at_builtin; refine wpList_append_list rfl (.tmp 36) (.tmp 39) rfl w.heap.size _ 0 [] rfl hL0 A a c _ (L.take a) rfl (by rw [List.length_take, ← HL.out.len]; omega) HL.out.nil (srd_head (HL.out.srd.alloc (Nat.le_refl _) _) a) (by omega) (by simp) ?_; intro v1 w1 hown1 hgrow1; obtain ⟨A1, c1, rfl⟩ := own_form hown1; have hB1 := ((Below.refl w.heap.size w).alloc (Nat.le_refl _) (.cells #[] 9)).grown hgrow1 (by simp) (fun k hk => (hL0.lt k hk).1)))
  have hln : (L.take a).length = a := by rw [List.length_take, ← HL.out.len]; omega
  have HLN := Lib.hid hln
  have HB1 := Lib.hid hB1
  have R2 := Lib.hid (fun (W : World) (hW : Below w.heap.size w W) => (HI.out.below hW).srd)
  have R3 := Lib.hid (fun (W : World) (hW : Below w.heap.size w W) => srd_tail (HL.out.below hW).srd (a + d) (by rw [← HL.out.len]; exact HL.out.room))
  rw [Nat.zero_add] at hown1
  clear hln hL0 hgrow1 hB1
  have HO1 := Lib.hid hown1
  have hw : IntKind.i64.wrap ((a : Int) + d) = (a : Int) + d := by rw [IntKind.wrap_i64]; omega
  have S3 : ∀ W, (Instr.slice 22 (.slice A n c) (some (.int .i64 ((a : Int) + d))) none none).run Try.prog W = .ok (.slice (tailA A c (a + d)) (n - (a + d)) (c - (a + d))) W := fun W => by rw [h5]; exact S2 W
  have M1 : More w.heap.size w w1 := HB1.out
  have M1' : More w.heap.size w w1.drew := below_drew HB1.out
  clear hown1 S1 S2 e0 h3 h4 h5
  go_region_held3 (fun W => More w.heap.size w W) (assumption) (first
    | (refine step_append_texts rfl (.tmp 41) (.tmp 42) rfl w.heap.size _ a _ (by first | rfl | simp [Act.eval, Act.put]) (by first | exact HO1.out | exact owns_drew HO1.out) B m c' _ ins (by first | rfl | simp [Act.eval, Act.put]) HI.out.len HI.out.nil (R2.out _ (by assumption)) (by omega) (More.to (by assumption)).size ?_; intro v2 w2 hown2 hgrow2; obtain ⟨A2, c2, rfl⟩ := own_form hown2; have HO2 := Lib.hid hown2; have M2 : More w.heap.size w w2 := Below.grown (More.to (by assumption)) hgrow2 (More.to (by assumption)).size (fun k hk => (HO1.out.lt k hk).1); clear hown2 hgrow2)
    | (refine step_append_texts rfl (.tmp 43) (.tmp 48) rfl w.heap.size _ (a + m) _ (by first | rfl | simp [Act.eval, Act.put]) (by first | exact HO2.out | exact owns_drew HO2.out) _ (n - (a + d)) (c - (a + d)) _ (L.drop (a + d)) (by first | rfl | simp [Act.eval, Act.put]) (by rw [List.length_drop, ← HL.out.len]) (tail_nil HL.out.nil) (R3.out _ (by assumption)) (by omega) (More.to (by assumption)).size ?_; intro v3 w3 hown3 hgrow3; obtain ⟨A3, c3, rfl⟩ := own_form hown3; have HO3 := Lib.hid hown3; have M3 : More w.heap.size w w3 := Below.grown (More.to (by assumption)) hgrow3 (More.to (by assumption)).size (fun k hk => (HO2.out.lt k hk).1); clear hown3 hgrow3))
  have HB3 := Lib.hid M3.to
  clear M1 M1' M2 M3 hw S3 HO2 HO1 R2 R3 HB1
  obtain ⟨t, ht⟩ : ∃ t, a + m + (n - (a + d)) = t := ⟨_, rfl⟩
  rw [ht] at HO3 ⊢
  have ht2 : t = n - d + m := by omega
  have HT := Lib.hid ht2
  have htb : t ≤ 100000 := by omega
  clear ht ht2
  by_cases hk0 : k = 0
  · subst hk0
    by_cases hbig : 2000 < t
    all_goals
      go_wp2_with (go_at_call 15; refine (C.out w3 HB3.out).mono ?_; rintro e w4 ⟨rfl, rfl⟩)
      go_ret2
    · exact ⟨HB3.out, .inl ⟨.inr (by rw [← HT.out]; exact hbig), rfl⟩⟩
    · refine ⟨HB3.out, .inr ⟨rfl, by rw [← HT.out]; omega, _, rfl, A3, t, c3, rfl, ?_, ?_, HB3.out⟩⟩
      · rw [spl_len (by rw [← HL.out.len]; omega), ← HL.out.len, ← HI.out.len]; exact HT.out
      · unfold spl
        rw [List.map_append, List.map_append]
        simpa using HO3.out
  · have hk3 : (k == 0) = false := by simpa using hk0
    go_wp2_with (go_at_call 15; refine (C.out w3 HB3.out).mono ?_; rintro e w4 ⟨rfl, rfl⟩)
    go_ret2
    exact ⟨HB3.out, .inl ⟨.inl hk0, rfl⟩⟩

/-- What the document's Splice tells: an error, or the new list. -/
theorem refSplice_is (w : World) (F : Nat → Prop) (A : Option Addr) (n c : Nat) (L : List ByteArray) (a d : Int) (B : Option Addr) (m c' : Nat) (ins : List ByteArray) (ha1 : -9223372036854775808 ≤ a) (ha2 : a ≤ 9223372036854775807) (hd1 : -9223372036854775808 ≤ d) (hd2 : d ≤ 9223372036854775807)
    (hn : n ≤ 2000) (hmb : m ≤ 10000) (hz : ∀ z ∈ ins, z.size ≤ maxLen) (hL : Lst w F A n c L) (hi : Lst w F B m c' ins) :
    Calls Try.prog 18 #[.slice A n c, .int .i64 a, .int .i64 d, .slice B m c'] w fun e w' => Below w.heap.size w w' ∧
      ((¬ splE L.length a d ins = 0 ∧ e = .returned (.tuple #[.slice none 0 0, .int .i64 (splE L.length a d ins)])) ∨
       (splE L.length a d ins = 0 ∧ ∃ v, e = .returned (.tuple #[v, .int .i64 0]) ∧ Row w (spl L a.toNat d.toNat ins) v w')) := by
  have hln := hL.len
  have hlm := hi.len
  rw [← hln]
  by_cases hE : a < 0 ∨ d < 0 ∨ (n : Int) - a < d ∨ chk ins = 2
  · have e2 : splE n a d ins = 2 := by
      unfold splE
      split
      · rfl
      · rename_i h
        have h2 : chk ins = 2 := by omega
        rw [if_pos (by rw [h2]; decide), h2]
    refine (refSplice_two w F A n c L a d B m c' ins ha1 ha2 hd1 hd2 (by omega) hlm (by omega) hz hi.srd hE).mono ?_
    rintro e w' ⟨rfl, rfl⟩
    exact ⟨Below.refl _ _, .inl ⟨by rw [e2]; decide, by rw [e2]⟩⟩
  · obtain ⟨x, rfl⟩ : ∃ x : Nat, a = x := ⟨a.toNat, by omega⟩
    obtain ⟨y, rfl⟩ : ∃ y : Nat, d = y := ⟨d.toNat, by omega⟩
    have h3 : splE n x y ins = if chk ins ≠ 0 ∨ 2000 < n - y + m then 3 else 0 := by
      unfold splE
      rw [if_neg (by omega)]
      rcases chk_three ins with h | h | h
      · rw [if_neg (by rw [h]; simp), h, ← hlm]
        by_cases hb : 2000 < n - y + m
        · rw [if_pos (by omega), if_pos (.inr hb)]
        · rw [if_neg (by omega), if_neg (by simp; omega)]
      · omega
      · rw [if_pos (by rw [h]; decide), h, if_pos (.inl (by decide))]
    refine (refSplice_more w F A n c L x y B m c' ins hn hmb hz hL hi (by omega) (by omega) _ rfl).mono ?_
    rintro e w' ⟨hB, ⟨h, rfl⟩ | ⟨h1, h2, v, rfl, hR⟩⟩
    · rw [if_pos h] at h3
      exact ⟨hB, .inl ⟨by rw [h3]; decide, by rw [h3]⟩⟩
    · rw [if_neg (by omega)] at h3
      exact ⟨hB, .inr ⟨h3, v, rfl, hR⟩⟩

set_option maxHeartbeats 2000000 in
set_option maxRecDepth 100000 in
/-- The document's Lines. -/
theorem refLines_is (w : World) (F : Nat → Prop) (A : Option Addr) (n c : Nat) (L : List ByteArray) (a u : Int) (ha1 : -9223372036854775808 ≤ a) (ha2 : a ≤ 9223372036854775807) (hu1 : -9223372036854775808 ≤ u) (hu2 : u ≤ 9223372036854775807) (hn : n ≤ 2000) (h : Lst w F A n c L) :
    Calls Try.prog 25 #[.slice A n c, .int .i64 a, .int .i64 u] w fun e w' => ∃ x, e = .returned x ∧ Row w ((L.take u.toNat).drop (a - 1).toNat) x w' := by
  obtain ⟨i0, hi, hz0, hz1, hz2⟩ := info_parts info9
  have hml : (1000000 : Nat) ≤ maxLen := by unfold maxLen; omega
  have HL := Lib.hid h
  clear h
  go_enter Try.func25, Try.ntmps25
  go_wp2
  go_loopg [7, 8] n (fun g s7 s8 wr => ∃ (k m : Nat), k ≤ n ∧ n - k ≤ g ∧ s8 = .int .i64 k ∧ m ≤ k ∧ m = (((L.take k).take u.toNat).drop (a - 1).toNat).length ∧ wr.ownsRow w.heap.size 9 1 s7 m ((((L.take k).take u.toNat).drop (a - 1).toNat).map Value.string) ∧ Below w.heap.size w wr)
  case atStart => exact ⟨0, 0, Nat.zero_le _, by omega, rfl, Nat.le_refl _, by simp, by simpa using World.ownsRow_nil _ _ _ _, Below.refl _ _⟩
  case round =>
    obtain ⟨k, m, hk, hg, rfl, hmk, hm, hown, hB⟩ := hrel
    have HM := Lib.hid hm
    have hz := hB.size
    clear hm
    by_cases hlt : k < n
    · obtain ⟨s, hs⟩ : ∃ s, L[k]? = some s := ⟨_, List.getElem?_eq_getElem (by rw [← HL.out.len]; exact hlt)⟩
      have HS := Lib.hid hs
      by_cases hin : (k : Int) + 1 ≥ a
      · by_cases hin2 : (k : Int) + 1 ≤ u
        · have T : Hid (((L.take (k + 1)).take u.toNat).drop (a - 1).toNat = ((L.take k).take u.toNat).drop (a - 1).toNat ++ [s]) := Lib.hid (by
            have hkl : k < L.length := by rw [← HL.out.len]; exact hlt
            rw [List.take_take, List.take_take, show min u.toNat (k + 1) = k + 1 by omega, show min u.toNat k = k by omega, List.take_succ_eq_append_getElem hkl, List.drop_append_of_le_length (by rw [List.length_take]; omega)]
            congr 2
            exact (List.getElem?_eq_some_iff.1 HS.out).2)
          obtain ⟨b1, o1, rfl, _, _, hc1⟩ := (HL.out.row.below hB) (by rw [List.length_map, ← HL.out.len]; omega)
          have g1 : wr.cell? ⟨b1, o1 + k, none⟩ = some (.string s) := hc1 k _ (by rw [List.getElem?_map, HS.out]; rfl)
          clear hc1 hs
          go_wp2_with (at_builtin; refine wpList_append_own _ rfl (.tmp 25) (.tmp 30) 22 rfl w.heap.size 9 i0 (.string ⟨#[]⟩) 1 16 Try.underlying22 hi hz0 hz1 hz2 rfl (by decide) _ _ _ rfl (hown.alloc _) ⟨wr.heap.size, 0, none⟩ 1 1 [.string s] rfl rfl (cell_one_new _ _ _) (one_str _) (by omega) (by omega) (by simp; omega) ?_; intro v1 w1 hown1 hgrow1 _; have hB1 := (hB.alloc hz (.cells #[.string s] 9)).grown hgrow1 (by simp; omega) (fun j hj => (hown.lt j hj).1))
          have HOWN := Lib.hid hown1
          have HB1 := Lib.hid hB1
          clear hown1 hB1 hgrow1 hown hB
          go_roundg (n - (k + 1))
          case measure => omega
          case rel =>
            refine ⟨k + 1, m + 1, by omega, by omega, by go_num, by omega, ?_, ?_, HB1.out⟩
            · rw [T.out, List.length_append, ← HM.out]; rfl
            · rw [T.out, List.map_append]; exact HOWN.out
        · have T : Hid (((L.take (k + 1)).take u.toNat).drop (a - 1).toNat = ((L.take k).take u.toNat).drop (a - 1).toNat) := Lib.hid (by
            rw [List.take_take, List.take_take, show min u.toNat (k + 1) = u.toNat by omega, show min u.toNat k = u.toNat by omega])
          clear hs
          go_wp2
          go_roundg (n - (k + 1))
          case measure => omega
          case rel => exact ⟨k + 1, m, by omega, by omega, by go_num, by omega, by rw [T.out]; exact HM.out, by rw [T.out]; exact hown, hB⟩
      · have T : Hid (((L.take (k + 1)).take u.toNat).drop (a - 1).toNat = ((L.take k).take u.toNat).drop (a - 1).toNat) := Lib.hid (by
          rw [List.drop_of_length_le (by rw [List.length_take, List.length_take]; omega), List.drop_of_length_le (by rw [List.length_take, List.length_take]; omega)])
        clear hs
        go_wp2
        go_roundg (n - (k + 1))
        case measure => omega
        case rel => exact ⟨k + 1, m, by omega, by omega, by go_num, by omega, by rw [T.out]; exact HM.out, by rw [T.out]; exact hown, hB⟩
    · have hkn : k = n := by omega
      subst hkn
      have E : Hid (L.take k = L) := Lib.hid (by rw [HL.out.len, List.take_length])
      obtain ⟨B', c', rfl, _, _⟩ := own_form' hown
      go_wp2
      go_ret
      rw [E.out] at hown HM
      exact ⟨_, rfl, B', m, c', rfl, HM.out, hown, hB⟩
end Go.Proofs.Ytpopnplncgpfkaa.pce
