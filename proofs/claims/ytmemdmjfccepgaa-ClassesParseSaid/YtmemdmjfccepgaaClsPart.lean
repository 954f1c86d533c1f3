/- Classes: a part. -/
import Derived.Test.YtmemdmjfccepgaaClsNamed
import Derived.BigQuiet
import Derived.Deep.QuietTactic
namespace Go.Proofs.Ytmemdmjfccepgaa.cls
open Go.RowKit Go.Lib
set_option linter.unusedVariables false
set_option linter.unusedSimpArgs false
set_option linter.unnecessarySimpa false
set_option linter.unusedSectionVars false

theorem extract_end (s : ByteArray) (a : Nat) : s.extract a s.size = B (s.data.toList.drop a) := by rw [← Lib.extract_to_end, B_list]
theorem slice_drop (l : List UInt8) (k : Nat) (ki : Int) (hki : ki = k) (h : k ≤ l.length) (W : World) : (Instr.slice 9 (.string (B l)) (some (.int .i64 ki)) none none).run Try.prog W = .ok (.string (B (l.drop k))) W := by
  subst hki
  rw [run_slice_string_l (P := Try.prog) W 9 (B l) Try.underlying9 .i64 (k : Int) (by omega) (by rw [B_size]; omega), Int.toNat_natCast, extract_end, list_B]
theorem index_at (l : List UInt8) (k : Nat) (ki : Int) (hki : ki = k) (h : k < l.length) (W : World) : (Instr.index 9 (.string (B l)) (.int .i64 ki)).run Try.prog W = .ok (.int .u8 ((l.getD k 0).toNat : Int)) W := by
  subst hki
  have h1 : (0 : Int) ≤ (k : Int) := by omega
  have e : (B l)[k]? = some (l.getD k 0) := by
    have : (B l)[k]? = l.toArray[k]? := rfl
    rw [this, List.getElem?_toArray, List.getElem?_eq_getElem h]
    simp [List.getD, List.getElem?_eq_getElem h]
  simp [Instr.index, asIntOf, Sem.run_bind, run_underlying Try.underlying9, h1, e, Result.andThen]

set_option maxHeartbeats 2000000 in
set_option maxRecDepth 100000 in
theorem part_is (w : World) (p : Nat) (f : Nat → Bool) (l : List UInt8) (hl : l.length ≤ 1000000000) (h : Arr w p f) (hV : Vs w.heap.size w) :
    Calls Try.prog 27 #[.string (B l), .pointer (some ⟨p, 0, none⟩)] w (Laid p f (partN l) w) := by
  obtain ⟨R, hR⟩ : ∃ R, partN l = R := ⟨_, rfl⟩
  rw [hR]
  have HR := Lib.hid hR
  have HA := Lib.hid h
  have HL := Lib.hid hl
  have HV := Lib.hid hV
  clear hR h hl hV
  by_cases h0 : l = []
  · subst h0
    have hres : R = none := by rw [← HR.out]; rfl
    subst hres
    go_enter Try.func27, Try.ntmps27
    go_wp2
    go_ret2
    exact ⟨Below.refl _ _, .inl ⟨rfl, rfl, f, HA.out⟩⟩
  · have q1 : (l == []) = false := by simpa using h0
    have hpos : 0 < l.length := List.length_pos_iff.2 h0
    cases h1 : hp2 l 58 with
    | true =>
      have C1 := Lib.hid (has2_is l 58 true h1 w)
      have hlen : 2 ≤ l.length := by
        match l, h1 with
        | [], h1 => simp [hp2] at h1
        | [_], h1 => simp [hp2] at h1
        | _ :: _ :: _, _ => simp
      have hsl := slice_drop l 2 2 rfl hlen
      have hres : nameN (l.drop 2) = R := by
        rw [← HR.out]
        unfold partN
        rw [if_neg h0, if_pos h1]
      have C2 := named_is w p f (l.drop 2) (by rw [List.length_drop]; have := HL.out; omega) HA.out HV.out
      rw [hres] at C2
      have D2 := Lib.hid C2
      clear C2 hres h1 hlen HR
      go_enter Try.func27, Try.ntmps27
      go_wp2_with fail
      go_at_call 26
      refine C1.out.mono ?_
      rintro e w' ⟨rfl, rfl⟩
      clear C1
      go_wp2_with fail
      go_at_call 33
      refine D2.out.mono ?_
      rintro e w2 ⟨hB, hh⟩
      rcases hh with ⟨hr, rfl, f', hf'⟩ | ⟨y, hr, rfl, hf'⟩
      · have G := Lib.hid (And.intro hB (And.intro hr hf'))
        clear hB hf' hr
        go_wp2
        go_ret2
        exact ⟨G.out.1, .inl ⟨G.out.2.1, rfl, f', G.out.2.2⟩⟩
      · have G := Lib.hid (And.intro hB (And.intro hr hf'))
        clear hB hf' hr
        go_wp2
        go_ret2
        exact ⟨G.out.1, .inr ⟨y, G.out.2.1, rfl, G.out.2.2⟩⟩
    | false =>
      have C1 := Lib.hid (has2_is l 58 false h1 w)
      cases h2 : opens l with
      | true =>
        have C2 := opensName_is l w
        rw [h2] at C2
        have D2 := Lib.hid C2
        have hres : R = none := by
          rw [← HR.out]
          unfold partN
          rw [if_neg h0, if_neg (by rw [h1]; decide), if_pos h2]
        subst hres
        clear C2 h1 h2 HR
        go_enter Try.func27, Try.ntmps27
        go_wp2_with fail
        go_at_call 26
        refine C1.out.mono ?_
        rintro e w' ⟨rfl, rfl⟩
        clear C1
        go_wp2_with fail
        go_at_call 34
        refine D2.out.mono ?_
        rintro e w' ⟨rfl, rfl⟩
        go_wp2
        go_ret2
        exact ⟨Below.refl _ _, .inl ⟨rfl, rfl, f, HA.out⟩⟩
      | false =>
        have C2 := opensName_is l w
        rw [h2] at C2
        have D2 := Lib.hid C2
        cases h3 : isRng l with
        | true =>
          have C3 := isRange_is l w HL.out
          rw [h3] at C3
          have D3 := Lib.hid C3
          have hlen : 3 ≤ l.length := by
            simp [isRng] at h3
            omega
          have i0 := index_at l 0 0 rfl (by omega)
          have i2 := index_at l 2 2 rfl (by omega)
          have s2 := slice_drop l 2 2 rfl (by omega)
          have s3 := slice_drop l 3 3 rfl hlen
          obtain ⟨a, ha⟩ : ∃ a, (l.getD 0 0).toNat = a := ⟨_, rfl⟩
          obtain ⟨c, hc⟩ : ∃ c, (l.getD 2 0).toNat = c := ⟨_, rfl⟩
          have a6 : a < 256 := by rw [← ha]; exact (l.getD 0 0).toNat_lt
          have c6 : c < 256 := by rw [← hc]; exact (l.getD 2 0).toNat_lt
          have hres : R = if c < a ∨ opens (l.drop 2) = true then none else some (btw a c, l.drop 3) := by
            rw [← HR.out]
            unfold partN
            rw [if_neg h0, if_neg (by rw [h1]; decide), if_neg (by rw [h2]; decide), if_pos h3, ha, hc]
          rw [ha] at i0
          rw [hc] at i2
          have HRR := Lib.hid hres
          have HLEN := Lib.hid hlen
          clear C2 C3 h1 h2 h3 ha hc hres HR hlen
          by_cases hca : c < a
          · have hres : R = none := by rw [HRR.out, if_pos (.inl hca)]
            subst hres
            have hd : decide ((c : Int) < (a : Int)) = true := decide_eq_true (by omega)
            go_enter Try.func27, Try.ntmps27
            go_wp2_with fail
            go_at_call 26
            refine C1.out.mono ?_
            rintro e w' ⟨rfl, rfl⟩
            clear C1
            go_wp2_with fail
            go_at_call 34
            refine D2.out.mono ?_
            rintro e w' ⟨rfl, rfl⟩
            clear D2
            go_wp2_with fail
            go_at_call 35
            refine D3.out.mono ?_
            rintro e w' ⟨rfl, rfl⟩
            clear D3
            go_wp2
            go_quiet (fail)
            go_wp2
            go_ret2
            exact ⟨below_drewN (Below.refl _ _) _, .inl ⟨rfl, rfl, f, HA.out⟩⟩
          · have hd : decide ((c : Int) < (a : Int)) = false := decide_eq_false (by omega)
            have C4 := fun W => opensName_is (l.drop 2) W
            cases h4 : opens (l.drop 2) with
            | true =>
              have hres : R = none := by rw [HRR.out, if_pos (.inr h4)]
              subst hres
              rw [h4] at C4
              have D4 := Lib.hid C4
              clear C4 h4 HRR
              go_enter Try.func27, Try.ntmps27
              go_wp2_with fail
              go_at_call 26
              refine C1.out.mono ?_
              rintro e w' ⟨rfl, rfl⟩
              clear C1
              go_wp2_with fail
              go_at_call 34
              refine D2.out.mono ?_
              rintro e w' ⟨rfl, rfl⟩
              clear D2
              go_wp2_with fail
              go_at_call 35
              refine D3.out.mono ?_
              rintro e w' ⟨rfl, rfl⟩
              clear D3
              go_wp2
              go_quiet ((go_at_call 34; refine Calls.quiet_of_same (D4.out _)))
              go_wp2
              go_ret2
              exact ⟨below_drewN (Below.refl _ _) _, .inl ⟨rfl, rfl, f, HA.out⟩⟩
            | false =>
              have hres : R = some (btw a c, l.drop 3) := by rw [HRR.out, if_neg (by rw [h4]; simp; omega)]
              subst hres
              rw [h4] at C4
              have D4 := Lib.hid C4
              clear C4 h4 HRR
              go_enter Try.func27, Try.ntmps27
              go_wp2_with fail
              go_at_call 26
              refine C1.out.mono ?_
              rintro e w' ⟨rfl, rfl⟩
              clear C1
              go_wp2_with fail
              go_at_call 34
              refine D2.out.mono ?_
              rintro e w' ⟨rfl, rfl⟩
              clear D2
              go_wp2_with fail
              go_at_call 35
              refine D3.out.mono ?_
              rintro e w' ⟨rfl, rfl⟩
              clear D3
              go_wp2
              go_quiet ((go_at_call 34; refine Calls.quiet_of_same (D4.out _)))
              go_wp2
              go_region_with ((go_at_call 36; refine (lay_is _ p a c f a6 c6 ?_).mono ?_; (exact HA.out); rintro e w5 ⟨rfl, hA5, hB5⟩))
              all_goals (
                have H5 := Lib.hid (And.intro hA5 hB5)
                clear hA5 hB5
                go_wp2
                go_ret2
                have hB6 := H5.out.2
                exact ⟨⟨hB6.os, hB6.tape, hB6.output, by rw [hB6.size]; exact Nat.le_refl _, fun k hk => hB6.block k (by omega)⟩, .inr ⟨_, rfl, rfl, H5.out.1⟩⟩)
        | false =>
          have C3 := isRange_is l w HL.out
          rw [h3] at C3
          have D3 := Lib.hid C3
          have i0 := index_at l 0 0 rfl hpos
          have s1 := slice_drop l 1 1 rfl hpos
          obtain ⟨a, ha⟩ : ∃ a, (l.getD 0 0).toNat = a := ⟨_, rfl⟩
          have a6 : a < 256 := by rw [← ha]; exact (l.getD 0 0).toNat_lt
          have hres : R = some (one a, l.drop 1) := by
            rw [← HR.out]
            unfold partN
            rw [if_neg h0, if_neg (by rw [h1]; decide), if_neg (by rw [h2]; decide), if_neg (by rw [h3]; decide), ha]
          subst hres
          rw [ha] at i0
          have hcell := HA.out.cell a6
          have hst := setCell_put HA.out a true a6
          have hfz := HA.out.frozen a
          have HP := Lib.hid (And.intro (putA_arr (g := upd f a true) HA.out.lt) (putA_but (w := w) (b := p) (g := upd f a true)))
          obtain ⟨wx, hwx⟩ : ∃ wx, putA w p (upd f a true) = wx := ⟨_, rfl⟩
          rw [hwx] at hst HP
          clear C2 C3 h1 h2 h3 ha HR hwx
          go_enter Try.func27, Try.ntmps27
          go_wp2_with fail
          go_at_call 26
          refine C1.out.mono ?_
          rintro e w' ⟨rfl, rfl⟩
          clear C1
          go_wp2_with fail
          go_at_call 34
          refine D2.out.mono ?_
          rintro e w' ⟨rfl, rfl⟩
          clear D2
          go_wp2_with fail
          go_at_call 35
          refine D3.out.mono ?_
          rintro e w' ⟨rfl, rfl⟩
          clear D3
          go_wp2
          go_region
          go_wp2
          go_ret2
          have hB6 := HP.out.2
          refine ⟨⟨hB6.os, hB6.tape, hB6.output, Nat.le_of_eq hB6.size.symm, fun k hk => hB6.block k (by omega)⟩, .inr ⟨_, rfl, (by rw [List.drop_one]; rfl), ?_⟩⟩
          have e : or2 f (one a) = upd f a true := by
            funext c
            unfold or2 one upd
            by_cases hc : c = a <;> simp [hc]
          rw [e]
          exact HP.out.1
end Go.Proofs.Ytmemdmjfccepgaa.cls
