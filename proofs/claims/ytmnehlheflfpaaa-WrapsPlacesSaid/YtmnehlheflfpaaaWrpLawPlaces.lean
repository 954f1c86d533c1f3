/- WrapsPlaces. -/
import Derived.Test.YtmnehlheflfpaaaWrpLawRows
import Derived.Deep.Cut
import Derived.BigGuardPart
import Derived.BigCall
namespace Go.Proofs.Ytmnehlheflfpaaa.wrp
open Go.RowKit Go.Lib
set_option linter.unusedVariables false
set_option linter.unusedSimpArgs false
set_option linter.unnecessarySimpa false
set_option linter.unusedSectionVars false

/-- The first cell of a byte. -/
theorem first_at (l : List UInt8) (k : Nat) (b c : UInt8) (r : List UInt8) (h : l[k]? = some b) (ho : ofL b (atL l k) = c :: r) : (cellsL l).getD (atL l k) 0 = c := by
  have := cells_at l k b h 0 (by rw [ho]; exact Nat.succ_pos _)
  rw [Nat.add_zero, ho] at this
  rw [List.getD_eq_getElem?_getD, this]; rfl
theorem getD_mem (l : List UInt8) (k : Nat) (h : k < l.length) : l.getD k 0 ∈ l := by
  rw [List.getD_eq_getElem?_getD, List.getElem?_eq_getElem h]; exact List.getElem_mem h
set_option maxHeartbeats 8000000 in
set_option maxRecDepth 100000 in
theorem law_places (l : List UInt8) (w : World) : Calls Try.prog 6 #[.string (B l)] w fun e w' => e = .returned (.bool true) ∧ Below w.heap.size w w' := by
  obtain ⟨z, hz⟩ : ∃ z, z = l.length := ⟨_, rfl⟩
  by_cases hl : 1000 < l.length
  · obtain ⟨s, hs⟩ : ∃ s, s = B l := ⟨_, rfl⟩
    have hsz : s.size = z := by rw [hs, B_size, hz]
    rw [← hs]
    rw [← hz] at hl
    clear hs hz
    go_enter Try.func6, Try.ntmps6
    go_wp2
    go_ret
    exact ⟨rfl, Below.refl _ _⟩
  · have C1 := Lib.hid (fun w => cellsIs (cells_is l w (by omega)))
    have C7 := Lib.hid (fun w => does_is w)
    have hbd := cells_bound l
    have HI : Hid (∀ (k : Nat) (W : World), k < z → (Instr.index 9 (.string (B l)) (.int .i64 (k : Int))).run Try.prog W = .ok (.int .u8 ((l.getD k 0).toNat : Int)) W) := Lib.hid fun k W h => index_at l k _ rfl (by omega) W
    obtain ⟨n, hn⟩ : ∃ n, n = (cellsL l).length := ⟨_, rfl⟩
    have HC : Hid (∀ (k : Nat) (W : World), k < n → (Instr.index 9 (.string (B (cellsL l))) (.int .i64 (k : Int))).run Try.prog W = .ok (.int .u8 (((cellsL l).getD k 0).toNat : Int)) W) := Lib.hid fun k W h => index_at (cellsL l) k _ rfl (by omega) W
    have HM : Hid (∀ k, k < n → 32 ≤ ((cellsL l).getD k 0).toNat ∧ ((cellsL l).getD k 0).toNat ≤ 126) := Lib.hid fun k h => cells_may l _ (getD_mem _ _ (by omega))
    have HALL : Hid (atL l z = n) := Lib.hid (by rw [hz, at_all, hn])
    have HLE : Hid (∀ k, atL l k ≤ n) := Lib.hid fun k => by rw [hn]; exact at_le l k
    obtain ⟨s, hs⟩ : ∃ s, s = B l := ⟨_, rfl⟩
    have hsz : s.size = z := by rw [hs, B_size, hz]
    obtain ⟨t, ht⟩ : ∃ t, t = B (cellsL l) := ⟨_, rfl⟩
    have htz : t.size = n := by rw [ht, B_size, hn]
    rw [← hs] at C1 HI ⊢
    rw [← ht] at C1 HC
    rw [← hz] at C1
    have q1000 : ¬ (1000 : Int) < (z : Int) := by omega
    have hn8 : n ≤ 8000 := by omega
    have hz1 : z ≤ 1000 := by omega
    have HZ := Lib.hid hz
    clear hs ht hbd hl hn hz
    go_enter Try.func6, Try.ntmps6
    go_wp2_with fail
    go_at_call 9
    refine (C1.out _).mono ?_
    rintro e w1 ⟨b1, o1, c1, rfl, h1, hb1⟩
    have hc0 : w1.cell? ⟨b1, o1, none⟩ = some (.int .i64 0) := h1 0 (Nat.zero_le _)
    have hcz : w1.cell? ⟨b1, o1 + z, none⟩ = some (.int .i64 (n : Int)) := by have := h1 z (Nat.le_refl _); rwa [HALL.out] at this
    have HB1 := Lib.hid hb1
    have H1 := Lib.hid h1
    clear hb1 h1
    go_wp2_with fail
    go_loopg [5, 6, 7] z (fun g s5 s6 s7 wr => ∃ i : Nat, i ≤ z ∧ z - i ≤ g ∧ s5 = .int .i64 i ∧ Below w1.heap.size w1 wr)
    case atStart => exact ⟨0, Nat.zero_le _, by omega, rfl, Below.refl _ _⟩
    case round =>
      obtain ⟨i, hi, hg, rfl, hB⟩ := hrel
      clear hc0 hcz
      by_cases hlt : i < z
      · have k1 := H1.out i hi
        have k2 := H1.out (i + 1) (by omega)
        have e1 : wr.cell? ⟨b1, o1 + i, none⟩ = some (.int .i64 (atL l i : Nat)) := (hB.cell (p := ⟨b1, o1 + i, none⟩) (World.block_lt_of_cell? _ _ k1)).trans k1
        have e2 : wr.cell? ⟨b1, o1 + (i + 1), none⟩ = some (.int .i64 (atL l (i + 1) : Nat)) := (hB.cell (p := ⟨b1, o1 + (i + 1), none⟩) (World.block_lt_of_cell? _ _ k2)).trans k2
        have hidx := fun W => HI.out i W hlt
        have hat := getD_at l i (by rw [← HZ.out]; exact hlt)
        have hsu := at_succ l i _ hat
        have hple := HLE.out (i + 1)
        have ho8 := ofL_len (l.getD i 0) (atL l i)
        have hplt : atL l i < n := by omega
        have hcdx := fun W => HC.out (atL l i) W hplt
        have HF := Lib.hid (fun cc rr => first_at l i _ cc rr hat)
        obtain ⟨b, hb⟩ : ∃ b, b = l.getD i 0 := ⟨_, rfl⟩
        rw [← hb] at hidx hsu ho8 HF
        obtain ⟨p, hp⟩ : ∃ p, p = atL l i := ⟨_, rfl⟩
        rw [← hp] at e1 hsu ho8 hplt hcdx HF
        obtain ⟨q, hq⟩ : ∃ q, q = atL l (i + 1) := ⟨_, rfl⟩
        rw [← hq] at e2 hsu hple
        obtain ⟨f, hf⟩ : ∃ f, f = (cellsL l).getD p 0 := ⟨_, rfl⟩
        rw [← hf] at hcdx HF
        have hx256 := b.toNat_lt
        have HB := Lib.hid hB
        have HG := Lib.hid hg
        clear k1 k2 hB hat hb hp hq hf hi hg
        by_cases h9 : b.toNat = 9
        · have ho : (ofL b p).length = 8 - p % 8 := by unfold ofL; rw [if_pos h9, List.length_replicate]
          rw [ho] at hsu
          have hq8 : (q : Int) % 8 = 0 := by omega
          have hd1 : ¬ (q : Int) - (p : Int) < 1 := by omega
          have hd8 : ¬ (8 : Int) < (q : Int) - (p : Int) := by omega
          rw [h9] at hidx
          obtain ⟨m, hm⟩ : ∃ m : Nat, (q : Int) - (p : Int) = (m : Int) := ⟨q - p, by omega⟩
          have hm1 : 1 ≤ m := by omega
          have hm8 : m ≤ 8 := by omega
          clear ho hsu ho8 h9 hx256 hd1 hd8
          have hnq : ¬ n < q := by omega
          have dp : decide ((p : Int) < 0) = false := by simp
          clear hple
          go_wp2_with fail
          go_quiet (fail)
          go_upto_region 12 with fail
          iterate 18 (first | go_guarded | go_step)
          simp only [List.append_eq, List.cons_append, List.nil_append]
          go_wp2
          go_roundg (z - (i + 1))
          case measure => have := HG.out; omega
          case rel => exact ⟨i + 1, by omega, by omega, by go_num, below_drewN HB.out _⟩
        · obtain ⟨x, hx⟩ : ∃ x, x = b.toNat := ⟨_, rfl⟩
          by_cases h1 : b.toNat < 32
          · have ho : ofL b p = [94, b + 64] := by unfold ofL; rw [if_neg h9, if_pos h1]
            have hf := HF.out 94 [b + 64] ho
            rw [hf] at hcdx
            have hfi : (((94 : UInt8).toNat : Nat) : Int) = 94 := rfl
            rw [hfi] at hcdx
            have hm : (q : Int) - (p : Int) = 2 := by have e := hsu; rw [ho] at e; simp only [List.length_cons, List.length_nil] at e; omega
            rw [← hx] at hidx h9 h1
            clear ho hsu ho8 hx256 hf hfi hx HF
            have hnq : ¬ n < q := by omega
            have dp : decide ((p : Int) < 0) = false := by simp
            clear hple
            have d1 : decide ((32 : Int) ≤ (x : Int)) = false := by simp; omega
            have d2 : ((x : Int) == 9) = false := by simp; omega
            have d3 : decide ((x : Int) < 32) = true := by simp; omega
            have d4 : ((x : Int) != 9) = true := by simp; omega
            have d5 : decide ((127 : Int) < (x : Int)) = false := by simp; omega
            clear h1 h9
            go_wp2_with fail
            go_quiet (fail)
            go_upto_region 12 with fail
            iterate 18 (first | go_guarded | go_step)
            simp only [List.append_eq, List.cons_append, List.nil_append]
            go_wp2
            go_roundg (z - (i + 1))
            case measure => have := HG.out; omega
            case rel => exact ⟨i + 1, by omega, by omega, by go_num, below_drewN HB.out _⟩
          by_cases h2 : b.toNat = 127
          · have ho : ofL b p = [94, 63] := by unfold ofL; rw [if_neg h9, if_neg h1, if_pos h2]
            have hf := HF.out 94 [63] ho
            rw [hf] at hcdx
            have hfi : (((94 : UInt8).toNat : Nat) : Int) = 94 := rfl
            rw [hfi] at hcdx
            have hm : (q : Int) - (p : Int) = 2 := by have e := hsu; rw [ho] at e; simp only [List.length_cons, List.length_nil] at e; omega
            rw [h2] at hidx
            clear ho hsu ho8 hx256 hf hfi hx HF h9 h1 h2
            have hnq : ¬ n < q := by omega
            have dp : decide ((p : Int) < 0) = false := by simp
            clear hple
            go_wp2_with fail
            go_quiet (fail)
            go_upto_region 12 with fail
            iterate 18 (first | go_guarded | go_step)
            simp only [List.append_eq, List.cons_append, List.nil_append]
            go_wp2
            go_roundg (z - (i + 1))
            case measure => have := HG.out; omega
            case rel => exact ⟨i + 1, by omega, by omega, by go_num, below_drewN HB.out _⟩
          by_cases h3 : 127 < b.toNat
          · have ho : ofL b p = [92, 48 + b / 64, 48 + b / 8 % 8, 48 + b % 8] := by unfold ofL; rw [if_neg h9, if_neg h1, if_neg h2, if_pos h3]
            have hf := HF.out 92 _ ho
            rw [hf] at hcdx
            have hfi : (((92 : UInt8).toNat : Nat) : Int) = 92 := rfl
            rw [hfi] at hcdx
            have hm : (q : Int) - (p : Int) = 4 := by have e := hsu; rw [ho] at e; simp only [List.length_cons, List.length_nil] at e; omega
            rw [← hx] at hidx h3
            have h126 : ¬ x ≤ 126 := by omega
            have h32 : ¬ x < 32 := by omega
            have h33 : 32 ≤ x := by omega
            have hx9 : ¬ x = 9 := by omega
            have hx127 : ¬ x = 127 := by omega
            clear ho hsu ho8 hx256 hf hfi hx HF h9 h1 h2
            have hnq : ¬ n < q := by omega
            have dp : decide ((p : Int) < 0) = false := by simp
            clear hple
            have d1 : decide ((32 : Int) ≤ (x : Int)) = true := by simp; omega
            have d6 : decide ((x : Int) ≤ 126) = false := by simp; omega
            have d2 : ((x : Int) == 9) = false := by simp; omega
            have d3 : decide ((x : Int) < 32) = false := by simp; omega
            have d4 : ((x : Int) == 127) = false := by simp; omega
            have d5 : decide ((127 : Int) < (x : Int)) = true := by simp; omega
            clear h3 h126 h32 h33 hx9 hx127
            go_wp2_with fail
            go_quiet (fail)
            go_upto_region 12 with fail
            iterate 18 (first | go_guarded | go_step)
            simp only [List.append_eq, List.cons_append, List.nil_append]
            go_wp2
            go_roundg (z - (i + 1))
            case measure => have := HG.out; omega
            case rel => exact ⟨i + 1, by omega, by omega, by go_num, below_drewN HB.out _⟩
          · have ho : ofL b p = [b] := by unfold ofL; rw [if_neg h9, if_neg h1, if_neg h2, if_neg h3]
            have hf := HF.out b [] ho
            rw [hf] at hcdx
            have hm : (q : Int) - (p : Int) = 1 := by have e := hsu; rw [ho] at e; simp only [List.length_cons, List.length_nil] at e; omega
            rw [← hx] at hidx hcdx h9 h1 h2 h3
            have h33 : 32 ≤ x := by omega
            have h126 : x ≤ 126 := by omega
            clear ho hsu ho8 hx256 hf hx HF h1
            have hnq : ¬ n < q := by omega
            have dp : decide ((p : Int) < 0) = false := by simp
            clear hple
            have d1 : decide ((32 : Int) ≤ (x : Int)) = true := by simp; omega
            have d6 : decide ((x : Int) ≤ 126) = true := by simp; omega
            have d2 : ((x : Int) == 9) = false := by simp; omega
            have d3 : decide ((x : Int) < 32) = false := by simp; omega
            have d4 : ((x : Int) == 127) = false := by simp; omega
            have d5 : decide ((127 : Int) < (x : Int)) = false := by simp; omega
            clear h2 h3 h126 h33 h9
            go_wp2_with fail
            go_quiet (fail)
            go_upto_region 12 with fail
            iterate 18 (first | go_guarded | go_step)
            simp only [List.append_eq, List.cons_append, List.nil_append]
            go_wp2
            go_roundg (z - (i + 1))
            case measure => have := HG.out; omega
            case rel => exact ⟨i + 1, by omega, by omega, by go_num, below_drewN HB.out _⟩
      · have hiz : i = z := by omega
        have HB : Hid (Below w.heap.size w wr) := Lib.hid (HB1.out.trans (hB.mono HB1.out.size))
        subst hiz
        clear hB hi hg hlt
        go_wp2_with fail
        go_loopg [8] n (fun g s8 wq => ∃ k : Nat, k ≤ n ∧ n - k ≤ g ∧ s8 = .int .i64 k ∧ wr = wq)
        case atStart => exact ⟨0, Nat.zero_le _, by omega, rfl, rfl⟩
        case round =>
          obtain ⟨k, hk, hg, rfl, rfl⟩ := hrel
          by_cases hkn : k < n
          · have hcdx := fun W => HC.out k W hkn
            obtain ⟨h32, h126⟩ := HM.out k hkn
            obtain ⟨f, hf⟩ : ∃ f, f = ((cellsL l).getD k 0).toNat := ⟨_, rfl⟩
            rw [← hf] at hcdx h32 h126
            have d1 : decide ((f : Int) < 32) = false := by simp; omega
            have d2 : decide ((126 : Int) < (f : Int)) = false := by simp; omega
            clear hf
            go_wp2
            go_roundg (n - (k + 1))
            case measure => omega
            case rel => exact ⟨k + 1, by omega, by omega, by go_num, rfl⟩
          · go_wp2_with fail
            go_at_call 12
            refine (C7.out _).mono ?_
            rintro e w7 ⟨rfl, hb7⟩
            have HB7 := Lib.hid (HB.out.trans (hb7.mono HB.out.size))
            clear hb7
            go_wp2
            go_ret
            exact ⟨rfl, HB7.out⟩
end Go.Proofs.Ytmnehlheflfpaaa.wrp
