/- The law NumsApart, walked: for every two lists and two texts it is true, and nothing that was there has turned. -/
import Derived.Test.YtcjcdbiknidahaaDoorDoes
import Derived.Deep.RegionHeld3
namespace Go.Proofs.YtcjcdbiknidahaaDoor
open Go.RowKit Go.Lib

theorem bytesOf_inj {a b : List ByteArray} (h : bytesOf a = bytesOf b) : a = b := by
  have := congrArg (List.map B) h
  unfold bytesOf at this
  simpa [List.map_map, Function.comp_def, B_list] using this
/-- All that stood below the box's end stands. -/
def More (p : Nat) (wb W : World) : Prop := Below p wb W
/-- The box holds its two texts, and all that stood stands. -/
theorem box_next {p : Nat} {s t : ByteArray} {wb W W' : World} (h : W.cell? ⟨p, 0, none⟩ = some (.string s) ∧ W.cell? ⟨p, 1, none⟩ = some (.string t) ∧ More (p + 1) wb W) (hp : p + 1 ≤ wb.heap.size) (hB : Below W.heap.size W W') :
    W'.cell? ⟨p, 0, none⟩ = some (.string s) ∧ W'.cell? ⟨p, 1, none⟩ = some (.string t) ∧ More (p + 1) wb W' := by
  obtain ⟨h0, h1, h2⟩ := h
  have hz : p + 1 ≤ W.heap.size := Nat.le_trans hp h2.size
  exact ⟨(hB.cell (p := ⟨p, 0, none⟩) (show p < W.heap.size by omega)).trans h0, (hB.cell (p := ⟨p, 1, none⟩) (show p < W.heap.size by omega)).trans h1, Below.trans h2 (hB.mono hz)⟩

set_option maxHeartbeats 4000000 in
set_option maxRecDepth 100000 in
theorem law9 (A0 : Option Addr) (c0 n0 : Nat) (z0 : List ByteArray) (A1 : Option Addr) (c1 n1 : Nat) (z1 : List ByteArray) (s t : ByteArray) (w : World)
    (hn0 : n0 = z0.length) (_hc0 : A0 = none → c0 = 0) (hm0 : n0 ≤ maxLen) (hz0 : ∀ z ∈ z0, z.size ≤ maxLen) (h0 : SRd w w.heap.size A0 z0)
    (hn1 : n1 = z1.length) (_hc1 : A1 = none → c1 = 0) (hm1 : n1 ≤ maxLen) (hz1 : ∀ z ∈ z1, z.size ≤ maxLen) (h1 : SRd w w.heap.size A1 z1)
    (hs : s.size ≤ maxLen) (ht : t.size ≤ maxLen) (hV : Vars w.heap.size w) :
    Calls Tryd.prog 9 #[.slice A0 n0 c0, .slice A1 n1 c1, .agg #[.string s, .string t]] w fun e w' => e = .returned (.bool true) ∧ Below w.heap.size w w' := by
  have hM0 : n0 ≤ 9223372036854775807 := by unfold maxLen at hm0; exact hm0
  have hM1 : n1 ≤ 9223372036854775807 := by unfold maxLen at hm1; exact hm1
  have HG0 := Lib.hid (fun W hW => great A0 c0 w.heap.size n0 100 1000 z0 W hn0 hM0 (by omega) (by omega) hz0 hW)
  have HG1 := Lib.hid (fun W hW => great A1 c1 w.heap.size n1 100 1000 z1 W hn1 hM1 (by omega) (by omega) hz1 hW)
  have HG2 := Lib.hid (fun p W hW => great (some ⟨p, 0, none⟩) 2 (p + 1) 2 2 100 [s, t] W rfl (by omega) (by omega) (by omega) (by intro z hz; simp only [List.mem_cons, List.not_mem_nil, or_false] at hz; rcases hz with rfl | rfl <;> assumption) hW)
  have N0 := Lib.hid hn0
  have N1 := Lib.hid hn1
  clear hn0 hn1 _hc0 _hc1 hm0 hm1 hz0 hz1 hs ht
  obtain ⟨wb, hwb⟩ : ∃ wb, wb = w.alloc (.cells #[.string s, .string t] 38) := ⟨_, rfl⟩
  have hsz : wb.heap.size = w.heap.size + 1 := by rw [hwb, World.size_alloc]
  have hB0 : Below w.heap.size w wb := by rw [hwb]; exact (Below.refl _ w).alloc (Nat.le_refl _) _
  have e0 : wb.cell? ⟨w.heap.size, 0, none⟩ = some (.string s) := by
    rw [hwb]; have hb := heap_alloc_new w (.cells #[.string s, .string t] 38); rw [cell_of_row _ _ _ _ _ _ hb]; rfl
  have e1 : wb.cell? ⟨w.heap.size, 1, none⟩ = some (.string t) := by
    rw [hwb]; have hb := heap_alloc_new w (.cells #[.string s, .string t] 38); rw [cell_of_row _ _ _ _ _ _ hb]; rfl
  have k2 : SRd wb (w.heap.size + 1) (some ⟨w.heap.size, 0, none⟩) [s, t] := by
    intro _
    refine ⟨_, _, rfl, by omega, fun j hj => ?_⟩
    match j, hj with
    | 0, _ => exact e0
    | 1, _ => exact e1
  have k0 := h0.below hB0
  have k1 := h1.below hB0
  have HWB := Lib.hid hwb
  have HSZ := Lib.hid hsz
  have E0 := Lib.hid e0
  have E1 := Lib.hid e1
  clear hsz e0 e1 hwb
  go_enter Tryd.func9, Tryd.ntmps9
  go_wp2_with fail
  rw [← HWB.out]
  go_at_call 10
  refine (HG0.out wb k0).mono ?_
  rintro e w' ⟨(rfl | ⟨rfl, g1, g2⟩), rfl⟩
  · go_wp2
    go_ret
    exact ⟨rfl, hB0⟩
  · go_wp2_with fail
    go_at_call 10
    refine (HG1.out wb k1).mono ?_
    rintro e w' ⟨(rfl | ⟨rfl, g3, g4⟩), rfl⟩
    · go_wp2
      go_ret
      exact ⟨rfl, hB0⟩
    · go_wp2_with fail
      go_at_call 10
      refine (HG2.out w.heap.size wb k2).mono ?_
      rintro e w' ⟨(rfl | ⟨rfl, g5, g6⟩), rfl⟩
      · go_wp2
        go_ret
        exact ⟨rfl, hB0⟩
      · have l0 : n0 ≤ 100 := by rw [N0.out]; exact g1
        have l1 : n1 ≤ 100 := by rw [N1.out]; exact g3
        have hts : s.size ≤ 100 ∧ t.size ≤ 100 := by simp [tot] at g6; omega
        obtain ⟨hs1, ht1⟩ := hts
        have hW : ∀ W, More (w.heap.size + 1) wb W → Below w.heap.size w W := fun W hW => hB0.trans (Below.mono hW (by omega))
        have hVW : ∀ W, More (w.heap.size + 1) wb W → Vars W.heap.size W := fun W hM => (hV.below (hW W hM)).more (hW W hM).size
        have PA := Lib.hid (fun W (h : W.cell? ⟨w.heap.size, 0, none⟩ = some (.string s) ∧ W.cell? ⟨w.heap.size, 1, none⟩ = some (.string t) ∧ More (w.heap.size + 1) wb W) =>
          (putList16 A0 c0 n0 z0 W N0.out (by omega) (by omega) ((h0.below (hW W h.2.2)).more (hW W h.2.2).size) (hVW W h.2.2)).mono fun e w' he => And.intro he.1 (box_next h (by rw [HSZ.out]; omega) he.2))
        have PB := Lib.hid (fun W (h : W.cell? ⟨w.heap.size, 0, none⟩ = some (.string s) ∧ W.cell? ⟨w.heap.size, 1, none⟩ = some (.string t) ∧ More (w.heap.size + 1) wb W) =>
          (putList16 A1 c1 n1 z1 W N1.out (by omega) (by omega) ((h1.below (hW W h.2.2)).more (hW W h.2.2).size) (hVW W h.2.2)).mono fun e w' he => And.intro he.1 (box_next h (by rw [HSZ.out]; omega) he.2))
        have hl0 : (putL (bytesOf z0)).length ≤ 5000 := by
          have := putK_len z0.length z0 z0.length (by unfold MX; omega) (by omega)
          rw [putK_all, List.take_length] at this
          omega
        have hl1 : (putL (bytesOf z1)).length ≤ 5000 := by
          have := putK_len z1.length z1 z1.length (by unfold MX; omega) (by omega)
          rw [putK_all, List.take_length] at this
          omega
        have S0 : wb.cell? ⟨w.heap.size, 0, none⟩ = some (.string s) ∧ wb.cell? ⟨w.heap.size, 1, none⟩ = some (.string t) ∧ More (w.heap.size + 1) wb wb := ⟨E0.out, E1.out, Below.refl _ _⟩
        have HX0 : Hid (∃ x, x = putL (bytesOf z0)) := Lib.hid ⟨_, rfl⟩
        obtain ⟨x0, hx0⟩ := HX0.out
        obtain ⟨x1, hx1⟩ : ∃ x, x = putL (bytesOf z1) := ⟨_, rfl⟩
        rw [← hx0] at PA hl0
        rw [← hx1] at PB hl1
        have X0 := Lib.hid hx0
        have X1 := Lib.hid hx1
        have T0 : Hid (tot z0 ≤ 1000000) := Lib.hid (by omega)
        have T1 : Hid (tot z1 ≤ 1000000) := Lib.hid (by omega)
        have H0 := Lib.hid h0
        have H1 := Lib.hid h1
        clear hx0 hx1 HX0 k0 k1 k2 HG0 HG1 HG2 g1 g2 g3 g4 g5 g6 hW hVW h0 h1
        go_wp2_with fail
        obtain ⟨E0', E1', M0⟩ := S0
        have M1 : More (w.heap.size + 1) wb wb.drew := below_drew (Below.refl _ _)
        have q0 : ¬ 9223372036854775807 < x0.length + s.size := by omega
        have q1 : ¬ 9223372036854775807 < x1.length + t.size := by omega
        go_region_held3 (fun W => W.cell? ⟨w.heap.size, 0, none⟩ = some (.string s) ∧ W.cell? ⟨w.heap.size, 1, none⟩ = some (.string t) ∧ More (w.heap.size + 1) wb W) (first | assumption | exact ⟨by assumption, by assumption, by assumption⟩)
          (first
            | (go_at_call_of 16 (Value.slice A0 n0 c0); refine (PA.out _ ?_).mono ?_; (assumption); rintro e w' ⟨rfl, hS⟩)
            | (go_at_call_of 16 (Value.slice A1 n1 c1); refine (PB.out _ ?_).mono ?_; (assumption); rintro e w' ⟨rfl, hS⟩))
        rename_i hS
        obtain ⟨F0, F1, M2⟩ := hS
        have HB2 := hB0.trans (Below.mono M2 (by omega))
        rename_i w2 hSold
        clear hSold E0' E1' M0 M1 PA PB E0 E1
        have hz2 := HB2.size
        have hV2 := (hV.below HB2).more hz2
        have r0 := (H0.out.below HB2).more hz2
        have r1 := (H1.out.below HB2).more hz2
        have HS : ∀ b, decide (z0 = z1) = b → ∀ W, Below w.heap.size w W → Calls Tryd.prog 26 #[.slice A0 n0 c0, .slice A1 n1 c1] W fun e w' => e = .returned (.bool b) ∧ Below W.heap.size W w' := fun b hb W hW =>
          same26_b A0 A1 c0 c1 n0 n1 z0 z1 W b N0.out N1.out (by omega) (by omega) hb ((H0.out.below hW).more hW.size) ((H1.out.below hW).more hW.size)
        have P0 : Hid (∀ W, Below w.heap.size w W → Calls Tryd.prog 16 #[.slice A0 n0 c0] W fun e w' => e = .returned (.string (B x0)) ∧ Below W.heap.size W w') := Lib.hid (fun W hW => by
          rw [X0.out]; exact putList16 A0 c0 n0 z0 W N0.out (by omega) T0.out ((H0.out.below hW).more hW.size) ((hV.below hW).more hW.size))
        have P1 : Hid (∀ W, Below w.heap.size w W → Calls Tryd.prog 16 #[.slice A1 n1 c1] W fun e w' => e = .returned (.string (B x1)) ∧ Below W.heap.size W w') := Lib.hid (fun W hW => by
          rw [X1.out]; exact putList16 A1 c1 n1 z1 W N1.out (by omega) T1.out ((H1.out.below hW).more hW.size) ((hV.below hW).more hW.size))
        have DD : Hid (∀ W, Below w.heap.size w W → Calls Tryd.prog 19 #[] W fun e w' => e = .returned (.bool true) ∧ Below W.heap.size W w') := Lib.hid (fun W hW => does19 W ((hV.below hW).more hW.size))
        clear hV r0 r1 hV2
        by_cases hz : z0 = z1
        · have SM := Lib.hid (HS true (by simp [hz]))
          have hx : x1 = x0 := by rw [X0.out, X1.out, hz]
          clear HS
          by_cases hst : s = t
          · subst hst
            subst hx
            have NN := Lib.hid hz
            clear hz X0 X1
            go_wp2_with fail
            go_at_call 26
            refine (SM.out _ HB2).mono ?_
            rintro e w3 ⟨rfl, hB3⟩
            have G0 : w3.cell? ⟨w.heap.size, 0, none⟩ = some (.string s) := (hB3.cell (p := ⟨w.heap.size, 0, none⟩) (show w.heap.size < _ by have := M2.size; have := HSZ.out; omega)).trans F0
            have G1 : w3.cell? ⟨w.heap.size, 1, none⟩ = some (.string s) := (hB3.cell (p := ⟨w.heap.size, 1, none⟩) (show w.heap.size < _ by have := M2.size; have := HSZ.out; omega)).trans F1
            have HB3 := HB2.trans (hB3.mono hz2)
            have hz3 := HB3.size
            clear hB3
            go_wp2_with fail
            go_at_call 16
            refine (P0.out _ HB3).mono ?_
            rintro e w4 ⟨rfl, hB4⟩
            have HB4 := HB3.trans (hB4.mono hz3)
            have hz4 := HB4.size
            clear hB4
            go_wp2_with fail
            go_at_call 16
            refine (P1.out _ HB4).mono ?_
            rintro e w5 ⟨rfl, hB5⟩
            have HB5 := HB4.trans (hB5.mono hz4)
            have hz5 := HB5.size
            clear hB5
            go_wp2_with fail
            go_at_call 26
            refine (SM.out _ HB5).mono ?_
            rintro e w6 ⟨rfl, hB6⟩
            have HB6 := HB5.trans (hB6.mono hz5)
            have hz6 := HB6.size
            clear hB6
            go_wp2_with fail
            go_at_call 19
            refine (DD.out _ HB6).mono ?_
            rintro e w7 ⟨rfl, hB7⟩
            have HB7 := HB6.trans (hB7.mono hz6)
            clear hB7
            go_wp2
            go_ret
            exact ⟨rfl, HB7⟩
          · subst hx
            have hne : ¬ (B x1 ++ s).toList = (B x1 ++ t).toList := fun e => hst (by
              have e2 : x1 ++ s.data.toList = x1 ++ t.data.toList := by simpa [Lib.toList_data] using e
              have e3 := List.append_cancel_left e2
              rw [← B_list s, ← B_list t, e3])
            have b1 : ((B x1 ++ s).toList == (B x1 ++ t).toList) = false := beq_eq_false_iff_ne.2 hne
            have NN := Lib.hid hz
            have ST := Lib.hid hst
            clear hz X0 X1 hst
            go_wp2_with fail
            go_at_call 16
            refine (P0.out _ HB2).mono ?_
            rintro e w4 ⟨rfl, hB4⟩
            have HB4 := HB2.trans (hB4.mono hz2)
            have hz4 := HB4.size
            clear hB4
            go_wp2_with fail
            go_at_call 16
            refine (P1.out _ HB4).mono ?_
            rintro e w5 ⟨rfl, hB5⟩
            have HB5 := HB4.trans (hB5.mono hz4)
            have hz5 := HB5.size
            clear hB5
            go_wp2_with fail
            go_at_call 26
            refine (SM.out _ HB5).mono ?_
            rintro e w6 ⟨rfl, hB6⟩
            have HB6 := HB5.trans (hB6.mono hz5)
            have hz6 := HB6.size
            clear hB6
            go_wp2_with fail
            go_at_call 19
            refine (DD.out _ HB6).mono ?_
            rintro e w7 ⟨rfl, hB7⟩
            have HB7 := HB6.trans (hB7.mono hz6)
            clear hB7
            go_wp2
            go_ret
            exact ⟨rfl, HB7⟩
        · have SM := Lib.hid (HS false (by simp [hz]))
          clear HS
          have hx : ¬ x0 = x1 := fun e => hz (bytesOf_inj (by
            have h2 : putL (bytesOf z0) ++ [] = putL (bytesOf z1) ++ [] := by rw [← X0.out, ← X1.out, e]
            exact (putL_inj h2).1))
          have hne : ¬ (B x0 ++ s).toList = (B x1 ++ t).toList := fun e => hz (bytesOf_inj (by
            have e2 : x0 ++ s.data.toList = x1 ++ t.data.toList := by simpa [Lib.toList_data] using e
            rw [X0.out, X1.out] at e2
            exact (putL_inj e2).1))
          have b1 : (x0 == x1) = false := beq_eq_false_iff_ne.2 hx
          have b2 : ((B x0 ++ s).toList == (B x1 ++ t).toList) = false := beq_eq_false_iff_ne.2 hne
          have b3 : ((B x0).toList == (B x1).toList) = false := beq_eq_false_iff_ne.2 (fun e => hx (by simpa [Lib.toList_data] using e))
          have NN := Lib.hid hz
          clear hz X0 X1
          go_wp2_with fail
          go_at_call 16
          refine (P0.out _ HB2).mono ?_
          rintro e w4 ⟨rfl, hB4⟩
          have HB4 := HB2.trans (hB4.mono hz2)
          have hz4 := HB4.size
          clear hB4
          go_wp2_with fail
          go_at_call 16
          refine (P1.out _ HB4).mono ?_
          rintro e w5 ⟨rfl, hB5⟩
          have HB5 := HB4.trans (hB5.mono hz4)
          have hz5 := HB5.size
          clear hB5
          go_wp2_with fail
          go_at_call 26
          refine (SM.out _ HB5).mono ?_
          rintro e w6 ⟨rfl, hB6⟩
          have HB6 := HB5.trans (hB6.mono hz5)
          have hz6 := HB6.size
          clear hB6
          go_wp2_with fail
          go_at_call 19
          refine (DD.out _ HB6).mono ?_
          rintro e w7 ⟨rfl, hB7⟩
          have HB7 := HB6.trans (hB7.mono hz6)
          clear hB7
          go_wp2
          go_ret
          exact ⟨rfl, HB7⟩
end Go.Proofs.YtcjcdbiknidahaaDoor
