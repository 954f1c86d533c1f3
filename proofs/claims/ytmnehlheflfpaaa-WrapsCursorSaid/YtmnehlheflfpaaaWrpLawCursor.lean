/- WrapsCursor. -/
import Derived.Test.YtmnehlheflfpaaaWrpLawRows
namespace Go.Proofs.Ytmnehlheflfpaaa.wrp
open Go.RowKit Go.Lib
set_option linter.unusedVariables false
set_option linter.unusedSimpArgs false
set_option linter.unnecessarySimpa false
set_option linter.unusedSectionVars false

/-- A place is in a row that there is. -/
theorem place_row (n c p : Nat) (hc : 0 < c) (h : p ≤ n - 1 ∨ (p = n ∧ n % c ≠ 0)) : p / c < rowsN n c := by
  rw [row_in n c (p / c) hc]
  have h1 := Nat.div_mul_le_self p c
  rcases h with h | ⟨rfl, h⟩
  · omega
  · have h2 := Nat.div_add_mod p c
    rw [Nat.mul_comm] at h2
    omega
/-- Its column is ahead of the row's end, if it has a cell. -/
theorem place_col (s : List UInt8) (c p : Nat) (hc : 0 < c) (h : p < s.length) : p % c < (rowL s c (p / c)).length := by
  rw [rowL_len]
  have h1 := Nat.mod_lt p hc
  have h2 := Nat.div_add_mod p c
  rw [Nat.mul_comm] at h2
  omega
theorem place_sum (c p : Nat) : ((p / c : Nat) : Int) * (c : Int) + ((p % c : Nat) : Int) = (p : Int) := by
  have h := Nat.div_add_mod p c
  rw [Nat.mul_comm] at h
  rw [← Int.natCast_mul, ← Int.natCast_add, h]
theorem place_mul (c p : Nat) (h : p ≤ 100000) : (0 : Int) ≤ ((p / c : Nat) : Int) * (c : Int) ∧ ((p / c : Nat) : Int) * (c : Int) ≤ 100000 := by
  have h1 := Nat.div_mul_le_self p c
  rw [← Int.natCast_mul]
  exact ⟨Int.natCast_nonneg _, by omega⟩
/-- What is known of the place p, behind n cells. -/
structure Here (l : List UInt8) (c : Nat) (i : Int) (z n p r k : Nat) : Prop where
  place : placeL l c i = p
  row : r = p / c
  col : k = p % c
set_option maxHeartbeats 4000000 in
set_option maxRecDepth 100000 in
theorem law_cursor (l : List UInt8) (b : Nat) (hb : b < 256) (i : Int) (w : World) : Calls Try.prog 8 #[.string (B l), .int .u8 b, .int .i64 i] w fun e w' => e = .returned (.bool true) ∧ Below w.heap.size w w' := by
  obtain ⟨z, hz⟩ : ∃ z, z = l.length := ⟨_, rfl⟩
  by_cases hl : 500 < l.length
  · obtain ⟨s, hs⟩ : ∃ s, s = B l := ⟨_, rfl⟩
    have hsz : s.size = z := by rw [hs, B_size, hz]
    rw [← hs]
    rw [← hz] at hl
    clear hs hz
    go_enter Try.func8, Try.ntmps8
    go_wp2
    go_ret
    exact ⟨rfl, Below.refl _ _⟩
  · obtain ⟨c, hc⟩ : ∃ c, c = b + 1 := ⟨_, rfl⟩
    have hci : 1 + (b : Int) = (c : Int) := by omega
    have hc0 : 0 < c := by omega
    have hc00 : ¬ (c : Int) = 0 := by omega
    have hbd := cells_bound l
    have C1 := Lib.hid (fun w => cellsIs (cells_is l w (by omega)))
    have C2' := Lib.hid (fun w => at_yes l c i hc0 (by omega) w)
    have C3 := Lib.hid (fun w => rowsOf_yes l c hc0 (by omega) w)
    have C4' := Lib.hid (fun k w => row_yes l c k hc0 (by omega) w)
    have C7 := Lib.hid (fun w => does_is w)
    obtain ⟨p, hp⟩ : ∃ p, p = placeL l c i := ⟨_, rfl⟩
    have HROW := Lib.hid (place_row (cellsL l).length c p hc0)
    have HCOL := Lib.hid (place_col (cellsL l) c p hc0)
    have hsum := place_sum c p
    have hmul := fun h => place_mul c p h
    have hcc := Nat.mod_lt p hc0
    have C4 := Lib.hid (fun w => C4'.out (p / c) w)
    obtain ⟨xr, hxr⟩ : ∃ xr, xr = (rowL (cellsL l) c (p / c)).length := ⟨_, rfl⟩
    obtain ⟨tr, htr⟩ : ∃ tr, tr = B (rowL (cellsL l) c (p / c)) := ⟨_, rfl⟩
    have htrz : tr.size = xr := by rw [htr, B_size, hxr]
    rw [← htr] at C4
    rw [← hxr] at HCOL
    unfold AtSays at C2'
    rw [← hp] at C2'
    have C2 := Lib.hid C2'.out
    clear C2' C4' htr hxr
    obtain ⟨r, hr⟩ : ∃ r, r = p / c := ⟨_, rfl⟩
    obtain ⟨k, hk⟩ : ∃ k, k = p % c := ⟨_, rfl⟩
    rw [← hr, ← hk] at hsum C2
    rw [← hr] at hmul C4 HROW
    rw [← hk] at HCOL hcc
    have HZ0 : Hid (z = 0 → (cellsL l).length = 0) := Lib.hid fun h => by omega
    have HNZ : Hid ((cellsL l).length = 0 → z = 0) := Lib.hid fun h => by omega
    obtain ⟨n, hn⟩ : ∃ n, n = (cellsL l).length := ⟨_, rfl⟩
    have HLT : Hid (∀ j, j < z → atL l j < n) := Lib.hid fun j h => by rw [hn]; exact at_lt l j (by omega)
    rw [← hn] at C3 HROW HCOL HZ0 HNZ hbd
    obtain ⟨rn, hrn⟩ : ∃ rn, rn = rowsN n c := ⟨_, rfl⟩
    rw [← hrn] at C3 HROW
    obtain ⟨t, ht⟩ : ∃ t, t = B (cellsL l) := ⟨_, rfl⟩
    have htz : t.size = n := by rw [ht, B_size, hn]
    obtain ⟨s, hs⟩ : ∃ s, s = B l := ⟨_, rfl⟩
    have hsz : s.size = z := by rw [hs, B_size, hz]
    rw [← hs] at C1 C2 C3 C4 ⊢
    rw [← ht, ← hz] at C1
    have hzl : z ≤ 500 := by omega
    have hn4 : n ≤ 4000 := by omega
    have q500 : ¬ (500 : Int) < (z : Int) := by omega
    have HZ := Lib.hid hz
    have HN := Lib.hid hn
    have HPL := Lib.hid hp
    rw [← hz] at hl
    clear hs ht hn hrn hbd hl hr hk hp hz hc
    have hkc : ¬ (c : Int) ≤ (k : Int) := by omega
    by_cases h1 : i < 0
    · have hp0 : p = 0 := by rw [HPL.out]; exact place_neg l c i h1
      by_cases hz0 : z = 0
      · have hn0 : n = 0 := HZ0.out hz0
        have hrr := HROW.out (.inl (by omega))
        obtain ⟨m0, m1⟩ := hmul (by omega)
        have hrr' : ¬ (rn : Int) ≤ (r : Int) := by omega
        subst hp0 hz0 hn0
        clear hmul
        go_enter Try.func8, Try.ntmps8
        go_wp2_with fail
        go_at_call 9
        refine (C1.out _).mono ?_
        rintro e w1 ⟨b1, o1, c1, rfl, h1, hb1⟩
        have HB1 := Lib.hid hb1
        clear hb1 h1
        go_wp2_with fail
        go_at_call 13
        refine (C2.out _).mono ?_
        rintro e w2 ⟨rfl, hb2⟩
        have HB2 := Lib.hid (HB1.out.trans (hb2.mono HB1.out.size))
        clear hb2 HB1
        go_wp2_with fail
        go_at_call 15
        refine (C3.out _).mono ?_
        rintro e w3 ⟨rfl, hb3⟩
        have HB3 := Lib.hid (HB2.out.trans (hb3.mono HB2.out.size))
        clear hb3 HB2
        go_wp2_with fail
        go_at_call 12
        refine (C7.out _).mono ?_
        rintro e w5 ⟨rfl, hb5⟩
        have HB5 := Lib.hid (HB3.out.trans (hb5.mono HB3.out.size))
        clear hb5
        go_wp2
        go_ret
        exact ⟨rfl, HB5.out⟩
      · have hlt : p < n := by have := HLT.out 0 (by omega); rw [at_zero] at this; omega
        have hrr := HROW.out (.inl (by omega))
        have hcl := HCOL.out hlt
        obtain ⟨m0, m1⟩ := hmul (by omega)
        have hrr' : ¬ (rn : Int) ≤ (r : Int) := by omega
        have hz1 : 0 < z := by omega
        have KP : Hid (atL l 0 = p) := Lib.hid (by rw [at_zero, hp0])
        clear hmul hp0
        go_enter Try.func8, Try.ntmps8
        go_wp2_with fail
        go_at_call 9
        refine (C1.out _).mono ?_
        rintro e w1 ⟨b1, o1, c1, rfl, h1, hb1⟩
        have k1 := h1 (0) (by omega)
        rw [Nat.add_zero] at k1
        rw [KP.out] at k1
        have HB1 := Lib.hid hb1
        clear hb1 h1
        go_wp2_with fail
        go_at_call 13
        refine (C2.out _).mono ?_
        rintro e w2 ⟨rfl, hb2⟩
        have k2 : w2.cell? ⟨b1, o1, none⟩ = some (.int .i64 (p : Int)) := (hb2.cell (p := ⟨b1, o1, none⟩) (World.block_lt_of_cell? _ _ k1)).trans k1
        clear k1
        have HB2 := Lib.hid (HB1.out.trans (hb2.mono HB1.out.size))
        clear hb2 HB1
        go_wp2_with fail
        go_at_call 15
        refine (C3.out _).mono ?_
        rintro e w3 ⟨rfl, hb3⟩
        have k3 : w3.cell? ⟨b1, o1, none⟩ = some (.int .i64 (p : Int)) := (hb3.cell (p := ⟨b1, o1, none⟩) (World.block_lt_of_cell? _ _ k2)).trans k2
        clear k2
        have HB3 := Lib.hid (HB2.out.trans (hb3.mono HB2.out.size))
        clear hb3 HB2
        go_wp2_with fail
        go_at_call 17
        refine (C4.out _).mono ?_
        rintro e w4 ⟨rfl, hb4⟩
        have HB4 := Lib.hid (HB3.out.trans (hb4.mono HB3.out.size))
        clear hb4 HB3
        go_wp2_with fail
        go_at_call 12
        refine (C7.out _).mono ?_
        rintro e w5 ⟨rfl, hb5⟩
        have HB5 := Lib.hid (HB4.out.trans (hb5.mono HB4.out.size))
        clear hb5
        go_wp2
        go_ret
        exact ⟨rfl, HB5.out⟩
    · obtain ⟨j, rfl⟩ : ∃ j : Nat, i = j := ⟨i.toNat, by omega⟩
      clear h1
      by_cases h2 : j < z
      · have KP : Hid (atL l j = p) := Lib.hid (by rw [HPL.out]; exact (place_in l c j (by rw [← HZ.out]; exact h2)).symm)
        have hlt : p < n := by rw [← KP.out]; exact HLT.out j h2
        have hrr := HROW.out (.inl (by omega))
        have hcl := HCOL.out hlt
        obtain ⟨m0, m1⟩ := hmul (by omega)
        have hrr' : ¬ (rn : Int) ≤ (r : Int) := by omega
        clear hmul
        go_enter Try.func8, Try.ntmps8
        go_wp2_with fail
        go_at_call 9
        refine (C1.out _).mono ?_
        rintro e w1 ⟨b1, o1, c1, rfl, h1, hb1⟩
        have k1 := h1 (j) (by omega)
        rw [KP.out] at k1
        have HB1 := Lib.hid hb1
        clear hb1 h1
        go_wp2_with fail
        go_at_call 13
        refine (C2.out _).mono ?_
        rintro e w2 ⟨rfl, hb2⟩
        have k2 : w2.cell? ⟨b1, o1 + j, none⟩ = some (.int .i64 (p : Int)) := (hb2.cell (p := ⟨b1, o1 + j, none⟩) (World.block_lt_of_cell? _ _ k1)).trans k1
        clear k1
        have HB2 := Lib.hid (HB1.out.trans (hb2.mono HB1.out.size))
        clear hb2 HB1
        go_wp2_with fail
        go_at_call 15
        refine (C3.out _).mono ?_
        rintro e w3 ⟨rfl, hb3⟩
        have k3 : w3.cell? ⟨b1, o1 + j, none⟩ = some (.int .i64 (p : Int)) := (hb3.cell (p := ⟨b1, o1 + j, none⟩) (World.block_lt_of_cell? _ _ k2)).trans k2
        clear k2
        have HB3 := Lib.hid (HB2.out.trans (hb3.mono HB2.out.size))
        clear hb3 HB2
        go_wp2_with fail
        go_at_call 17
        refine (C4.out _).mono ?_
        rintro e w4 ⟨rfl, hb4⟩
        have HB4 := Lib.hid (HB3.out.trans (hb4.mono HB3.out.size))
        clear hb4 HB3
        go_wp2_with fail
        go_at_call 12
        refine (C7.out _).mono ?_
        rintro e w5 ⟨rfl, hb5⟩
        have HB5 := Lib.hid (HB4.out.trans (hb5.mono HB4.out.size))
        clear hb5
        go_wp2
        go_ret
        exact ⟨rfl, HB5.out⟩
      · have HE : Hid ((l.length : Int) ≤ (j : Int)) := Lib.hid (by have := HZ.out; omega)
        by_cases hn0 : n = 0
        · have hp0 : p = 0 := by rw [HPL.out, place_end l c j HE.out (by rw [← HN.out]; omega), ← HN.out, hn0]
          have hz0 : z = 0 := HNZ.out hn0
          have hrr := HROW.out (.inl (by omega))
          obtain ⟨m0, m1⟩ := hmul (by omega)
          have hrr' : ¬ (rn : Int) ≤ (r : Int) := by omega
          subst hp0 hn0 hz0
          clear hmul
          by_cases hj0 : j = 0
          · subst hj0
            go_enter Try.func8, Try.ntmps8
            go_wp2_with fail
            go_at_call 9
            refine (C1.out _).mono ?_
            rintro e w1 ⟨b1, o1, c1, rfl, h1, hb1⟩
            have HB1 := Lib.hid hb1
            clear hb1 h1
            go_wp2_with fail
            go_at_call 13
            refine (C2.out _).mono ?_
            rintro e w2 ⟨rfl, hb2⟩
            have HB2 := Lib.hid (HB1.out.trans (hb2.mono HB1.out.size))
            clear hb2 HB1
            go_wp2_with fail
            go_at_call 15
            refine (C3.out _).mono ?_
            rintro e w3 ⟨rfl, hb3⟩
            have HB3 := Lib.hid (HB2.out.trans (hb3.mono HB2.out.size))
            clear hb3 HB2
            go_wp2_with fail
            go_at_call 12
            refine (C7.out _).mono ?_
            rintro e w5 ⟨rfl, hb5⟩
            have HB5 := Lib.hid (HB3.out.trans (hb5.mono HB3.out.size))
            clear hb5
            go_wp2
            go_ret
            exact ⟨rfl, HB5.out⟩
          · have hj1 : (0 : Int) < (j : Int) := by omega
            go_enter Try.func8, Try.ntmps8
            go_wp2_with fail
            go_at_call 9
            refine (C1.out _).mono ?_
            rintro e w1 ⟨b1, o1, c1, rfl, h1, hb1⟩
            have HB1 := Lib.hid hb1
            clear hb1 h1
            go_wp2_with fail
            go_at_call 13
            refine (C2.out _).mono ?_
            rintro e w2 ⟨rfl, hb2⟩
            have HB2 := Lib.hid (HB1.out.trans (hb2.mono HB1.out.size))
            clear hb2 HB1
            go_wp2_with fail
            go_at_call 15
            refine (C3.out _).mono ?_
            rintro e w3 ⟨rfl, hb3⟩
            have HB3 := Lib.hid (HB2.out.trans (hb3.mono HB2.out.size))
            clear hb3 HB2
            go_wp2_with fail
            go_at_call 12
            refine (C7.out _).mono ?_
            rintro e w5 ⟨rfl, hb5⟩
            have HB5 := Lib.hid (HB3.out.trans (hb5.mono HB3.out.size))
            clear hb5
            go_wp2
            go_ret
            exact ⟨rfl, HB5.out⟩
        · by_cases hm : n % c = 0
          · have hp1 : p = n - 1 := by rw [HPL.out, place_full l c j HE.out (by rw [← HN.out]; omega) (by rw [← HN.out]; exact hm), ← HN.out]
            have hrr := HROW.out (.inl (by omega))
            obtain ⟨m0, m1⟩ := hmul (by omega)
            have hrr' : ¬ (rn : Int) ≤ (r : Int) := by omega
            have hn1 : (n : Int) - 1 = (p : Int) := by omega
            have hne : ¬ (p : Int) = (n : Int) := by omega
            have hne2 : ¬ p = n := by omega
            have q3' : (n : Int) % (c : Int) = 0 := by
              have : ((n % c : Nat) : Int) = 0 := by rw [hm]; rfl
              exact this
            have hnn : ¬ (n : Int) = 0 := by omega
            clear hmul hm hp1
            by_cases hjz : j = z
            · subst hjz
              go_enter Try.func8, Try.ntmps8
              go_wp2_with fail
              go_at_call 9
              refine (C1.out _).mono ?_
              rintro e w1 ⟨b1, o1, c1, rfl, h1, hb1⟩
              have HB1 := Lib.hid hb1
              clear hb1 h1
              go_wp2_with fail
              go_at_call 13
              refine (C2.out _).mono ?_
              rintro e w2 ⟨rfl, hb2⟩
              have HB2 := Lib.hid (HB1.out.trans (hb2.mono HB1.out.size))
              clear hb2 HB1
              go_wp2_with fail
              go_at_call 15
              refine (C3.out _).mono ?_
              rintro e w3 ⟨rfl, hb3⟩
              have HB3 := Lib.hid (HB2.out.trans (hb3.mono HB2.out.size))
              clear hb3 HB2
              go_wp2_with fail
              go_at_call 12
              refine (C7.out _).mono ?_
              rintro e w5 ⟨rfl, hb5⟩
              have HB5 := Lib.hid (HB3.out.trans (hb5.mono HB3.out.size))
              clear hb5
              go_wp2
              go_ret
              exact ⟨rfl, HB5.out⟩
            · have h3 : (z : Int) < (j : Int) := by omega
              go_enter Try.func8, Try.ntmps8
              go_wp2_with fail
              go_at_call 9
              refine (C1.out _).mono ?_
              rintro e w1 ⟨b1, o1, c1, rfl, h1, hb1⟩
              have HB1 := Lib.hid hb1
              clear hb1 h1
              go_wp2_with fail
              go_at_call 13
              refine (C2.out _).mono ?_
              rintro e w2 ⟨rfl, hb2⟩
              have HB2 := Lib.hid (HB1.out.trans (hb2.mono HB1.out.size))
              clear hb2 HB1
              go_wp2_with fail
              go_at_call 15
              refine (C3.out _).mono ?_
              rintro e w3 ⟨rfl, hb3⟩
              have HB3 := Lib.hid (HB2.out.trans (hb3.mono HB2.out.size))
              clear hb3 HB2
              go_wp2_with fail
              go_at_call 12
              refine (C7.out _).mono ?_
              rintro e w5 ⟨rfl, hb5⟩
              have HB5 := Lib.hid (HB3.out.trans (hb5.mono HB3.out.size))
              clear hb5
              go_wp2
              go_ret
              exact ⟨rfl, HB5.out⟩
          · have hp1 : p = n := by rw [HPL.out, place_end l c j HE.out (by rw [← HN.out]; omega), ← HN.out]
            have hrr := HROW.out (.inr ⟨hp1, hm⟩)
            obtain ⟨m0, m1⟩ := hmul (by omega)
            have hrr' : ¬ (rn : Int) ≤ (r : Int) := by omega
            have q3' : ¬ (n : Int) % (c : Int) = 0 := fun h => by
              have : ((n % c : Nat) : Int) = 0 := h
              omega
            subst hp1
            clear hmul hm
            by_cases hjz : j = z
            · subst hjz
              go_enter Try.func8, Try.ntmps8
              go_wp2_with fail
              go_at_call 9
              refine (C1.out _).mono ?_
              rintro e w1 ⟨b1, o1, c1, rfl, h1, hb1⟩
              have HB1 := Lib.hid hb1
              clear hb1 h1
              go_wp2_with fail
              go_at_call 13
              refine (C2.out _).mono ?_
              rintro e w2 ⟨rfl, hb2⟩
              have HB2 := Lib.hid (HB1.out.trans (hb2.mono HB1.out.size))
              clear hb2 HB1
              go_wp2_with fail
              go_at_call 15
              refine (C3.out _).mono ?_
              rintro e w3 ⟨rfl, hb3⟩
              have HB3 := Lib.hid (HB2.out.trans (hb3.mono HB2.out.size))
              clear hb3 HB2
              go_wp2_with fail
              go_at_call 12
              refine (C7.out _).mono ?_
              rintro e w5 ⟨rfl, hb5⟩
              have HB5 := Lib.hid (HB3.out.trans (hb5.mono HB3.out.size))
              clear hb5
              go_wp2
              go_ret
              exact ⟨rfl, HB5.out⟩
            · have h3 : (z : Int) < (j : Int) := by omega
              go_enter Try.func8, Try.ntmps8
              go_wp2_with fail
              go_at_call 9
              refine (C1.out _).mono ?_
              rintro e w1 ⟨b1, o1, c1, rfl, h1, hb1⟩
              have HB1 := Lib.hid hb1
              clear hb1 h1
              go_wp2_with fail
              go_at_call 13
              refine (C2.out _).mono ?_
              rintro e w2 ⟨rfl, hb2⟩
              have HB2 := Lib.hid (HB1.out.trans (hb2.mono HB1.out.size))
              clear hb2 HB1
              go_wp2_with fail
              go_at_call 15
              refine (C3.out _).mono ?_
              rintro e w3 ⟨rfl, hb3⟩
              have HB3 := Lib.hid (HB2.out.trans (hb3.mono HB2.out.size))
              clear hb3 HB2
              go_wp2_with fail
              go_at_call 12
              refine (C7.out _).mono ?_
              rintro e w5 ⟨rfl, hb5⟩
              have HB5 := Lib.hid (HB3.out.trans (hb5.mono HB3.out.size))
              clear hb5
              go_wp2
              go_ret
              exact ⟨rfl, HB5.out⟩
end Go.Proofs.Ytmnehlheflfpaaa.wrp
