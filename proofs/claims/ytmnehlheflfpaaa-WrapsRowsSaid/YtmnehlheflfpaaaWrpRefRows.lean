/- Lines in rows: the document's Rows, Row. -/
import Derived.Test.YtmnehlheflfpaaaWrpRefCells
namespace Go.Proofs.Ytmnehlheflfpaaa.wrp
open Go.RowKit Go.Lib
set_option linter.unusedVariables false
set_option linter.unusedSimpArgs false
set_option linter.unnecessarySimpa false
set_option linter.unusedSectionVars false

set_option maxHeartbeats 4000000 in
theorem refRows_no (l : List UInt8) (c : Int) (hc : c < 1) (w : World) : Calls Try.prog 16 #[.string (B l), .int .i64 c] w fun e w' => e = .returned (.int .i64 0) ∧ Below w.heap.size w w' := by
  go_enter Try.func16, Try.ntmps16
  go_wp2
  go_ret
  exact ⟨rfl, Below.refl _ _⟩
set_option maxHeartbeats 4000000 in
set_option maxRecDepth 100000 in
theorem refRows_yes (l : List UInt8) (c : Nat) (hc : 0 < c) (hl : l.length ≤ 100000) (w : World) : Calls Try.prog 16 #[.string (B l), .int .i64 c] w fun e w' => e = .returned (.int .i64 (rowsN (cellsL l).length c : Nat)) ∧ Below w.heap.size w w' := by
  have hb := cells_bound l
  have C := Lib.hid (refCells_is l w hl)
  have q : decide ((c : Int) < 1) = false := by simp; omega
  have q0 : ¬ (c : Int) = 0 := by omega
  obtain ⟨n, hn⟩ : ∃ n, n = (cellsL l).length := ⟨_, rfl⟩
  obtain ⟨s, hs⟩ : ∃ s, s = B (cellsL l) := ⟨_, rfl⟩
  have hsz : s.size = n := by rw [hs, B_size, hn]
  have HS := Lib.hid hs
  rw [← hn] at hb ⊢
  have hnb : n ≤ 1000000 := by omega
  have hlt : ∀ k, k ≤ n → rowsN k c ≤ 1000001 := fun k hk => by
    unfold rowsN
    have := Nat.div_le_self (k - 1) c
    omega
  have HL := Lib.hid hlt
  clear hs hn hb hlt
  go_enter Try.func16, Try.ntmps16
  go_wp2_with (go_at_call 10; refine C.out.mono ?_; rintro e w1 ⟨v, rfl, ho1, hb1⟩; rw [← HS.out]; have HB1 := Lib.hid hb1; clear hb1 ho1)
  go_loopg [7, 8] n (fun g s7 s8 wr => ∃ k : Nat, k ≤ n ∧ n - k ≤ g ∧ s8 = .int .i64 k ∧ s7 = .int .i64 (rowsN k c : Nat) ∧ w1 = wr)
  case atStart => exact ⟨0, Nat.zero_le _, by omega, rfl, by rw [rowsN_zero]; rfl, rfl⟩
  case round =>
    obtain ⟨k, hk, hg, rfl, rfl, rfl⟩ := hrel
    have hr := HL.out k hk
    obtain ⟨r, hr2⟩ : ∃ r, r = rowsN k c := ⟨_, rfl⟩
    by_cases hlt : k < n
    · have HST := Lib.hid (rowsN_step k c hc)
      rw [← hr2] at hr HST ⊢
      clear hr2
      by_cases hk0 : k = 0
      · subst hk0
        have HST' : Hid (rowsN (0 + 1) c = r) := Lib.hid (by rw [HST.out, if_neg (fun h => by omega), Nat.add_zero])
        clear HST
        go_wp2
        go_roundg (n - (0 + 1))
        case measure => omega
        case rel => exact ⟨0 + 1, by omega, by omega, by go_num, by rw [HST'.out], rfl⟩
      · have hk1 : 0 < k := by omega
        have q2 : decide ((0 : Int) < (k : Int)) = true := by simp; omega
        by_cases hm : k % c = 0
        · have HST' : Hid (rowsN (k + 1) c = r + 1) := Lib.hid (by rw [HST.out, if_pos ⟨hk1, hm⟩])
          have q3' : (k : Int) % (c : Int) = 0 := by
            have : ((k % c : Nat) : Int) = 0 := by rw [hm]; rfl
            exact this
          have q3 : ((k : Int) % (c : Int) == 0) = true := by rw [q3']; rfl
          clear HST hm
          go_wp2
          go_roundg (n - (k + 1))
          case measure => omega
          case rel => exact ⟨k + 1, by omega, by omega, by go_num, by rw [HST'.out]; go_num, rfl⟩
        · have HST' : Hid (rowsN (k + 1) c = r) := Lib.hid (by rw [HST.out, if_neg (fun h => hm h.2), Nat.add_zero])
          have q3' : ¬ (k : Int) % (c : Int) = 0 := fun h => by
            have : ((k % c : Nat) : Int) = 0 := h
            omega
          have q3 : ((k : Int) % (c : Int) == 0) = false := by simp only [beq_eq_false_iff_ne]; exact q3'
          clear HST hm
          go_wp2
          go_roundg (n - (k + 1))
          case measure => omega
          case rel => exact ⟨k + 1, by omega, by omega, by go_num, by rw [HST'.out], rfl⟩
    · have hkn : k = n := by omega
      subst hkn
      go_wp2
      go_ret
      exact ⟨rfl, HB1.out⟩
theorem row_step_out (s : List UInt8) (c k i : Nat) (x : UInt8) (hc : 0 < c) (hx : s[i]? = some x) (h : ¬ i / c = k) : rowL (s.take (i + 1)) c k = rowL (s.take i) c k := by
  rw [rowL_step s c k i x hc hx, if_neg h, List.append_nil]
theorem row_step_in (s : List UInt8) (c k i : Nat) (x : UInt8) (hc : 0 < c) (hx : s[i]? = some x) (h : i / c = k) : B (rowL (s.take (i + 1)) c k) = B (rowL (s.take i) c k) ++ B [x] := by
  rw [rowL_step s c k i x hc hx, if_pos h, add_B]
theorem rowL_le (s : List UInt8) (c k : Nat) : (rowL s c k).length ≤ s.length := by
  unfold rowL; rw [List.length_take, List.length_drop]; omega
set_option maxHeartbeats 4000000 in
set_option maxRecDepth 100000 in
theorem refRow_yes (l : List UInt8) (c k : Nat) (hc : 0 < c) (hl : l.length ≤ 100000) (w : World) : Calls Try.prog 18 #[.string (B l), .int .i64 c, .int .i64 k] w fun e w' => e = .returned (.string (B (rowL (cellsL l) c k))) ∧ Below w.heap.size w w' := by
  have hb := cells_bound l
  have C := Lib.hid (refCells_is l w hl)
  have q : decide ((1 : Int) ≤ (c : Int)) = true := by simp; omega
  have q0 : ¬ (c : Int) = 0 := by omega
  have hc1 : 1 ≤ c := hc
  obtain ⟨n, hn⟩ : ∃ n, n = (cellsL l).length := ⟨_, rfl⟩
  have HI : Hid (∀ (i : Nat) (ii : Int) (W : World), i < n → ii = (i : Int) + 1 → (Instr.slice 9 (.string (B (cellsL l))) (some (.int .i64 (i : Int))) (some (.int .i64 ii)) none).run Try.prog W = .ok (.string (B [(cellsL l).getD i 0])) W) := Lib.hid fun i ii W h e => by
    rw [slice_mid (cellsL l) i (i + 1) _ _ rfl (by omega) (by omega) (by omega)]
    have : ((cellsL l).drop i).take (i + 1 - i) = [(cellsL l).getD i 0] := by
      rw [List.drop_eq_getElem_cons (by omega), show i + 1 - i = 1 by omega, List.take_succ_cons, List.take_zero]
      simp [List.getD, List.getElem?_eq_getElem (show i < (cellsL l).length by omega)]
    rw [this]
  obtain ⟨s, hs⟩ : ∃ s, s = B (cellsL l) := ⟨_, rfl⟩
  have hsz : s.size = n := by rw [hs, B_size, hn]
  have HS := Lib.hid hs
  have HN := Lib.hid hn
  rw [← hs] at HI
  rw [← hn] at hb
  have hnb : n ≤ 1000000 := by omega
  clear hs hn hb
  go_enter Try.func18, Try.ntmps18
  go_wp2_with (go_at_call 10; refine C.out.mono ?_; rintro e w1 ⟨v, rfl, ho1, hb1⟩; rw [← HS.out]; have HB1 := Lib.hid hb1; clear hb1 ho1)
  go_loopg [9, 10] n (fun g s9 s10 wr => ∃ i : Nat, i ≤ n ∧ n - i ≤ g ∧ s10 = .int .i64 i ∧ s9 = .string (B (rowL ((cellsL l).take i) c k)) ∧ w1 = wr)
  case atStart => exact ⟨0, Nat.zero_le _, by omega, rfl, by rw [List.take_zero, rowL_nil], rfl⟩
  case round =>
    obtain ⟨i, hi, hg, rfl, rfl, rfl⟩ := hrel
    have hro := rowL_le ((cellsL l).take i) c k
    rw [List.length_take, ← HN.out] at hro
    by_cases hlt : i < n
    · have hx := getD_at (cellsL l) i (by rw [← HN.out]; exact hlt)
      have hsl := fun W => HI.out i ((i : Int) + 1) W hlt rfl
      obtain ⟨x, hx2⟩ : ∃ x, x = (cellsL l).getD i 0 := ⟨_, rfl⟩
      rw [← hx2] at hx hsl
      by_cases hd : i / c = k
      · have HST := Lib.hid (row_step_in (cellsL l) c k i x hc hx hd)
        have hdi : (i : Int) / (c : Int) = (k : Int) := by rw [← hd]; rfl
        have hk0 : (k : Int) ≤ 1000000 := by have := Nat.div_le_self i c; omega
        obtain ⟨t, ht⟩ : ∃ t, t = B (rowL ((cellsL l).take i) c k) := ⟨_, rfl⟩
        have htz : t.size ≤ 1000000 := by rw [ht, B_size]; omega
        rw [← ht] at HST ⊢
        have hbx : (B [x]).size = 1 := rfl
        obtain ⟨u, hu⟩ : ∃ u, u = B [x] := ⟨_, rfl⟩
        rw [← hu] at HST hsl hbx
        clear hx hx2 hro hd ht hu
        go_wp2
        go_roundg (n - (i + 1))
        case measure => omega
        case rel => exact ⟨i + 1, by omega, by omega, by go_num, by rw [HST.out], rfl⟩
      · have HST := Lib.hid (row_step_out (cellsL l) c k i x hc hx hd)
        have hdi : ¬ (i : Int) / (c : Int) = (k : Int) := fun h => hd (by
          have : ((i / c : Nat) : Int) = (k : Int) := h
          omega)
        have hdi2 : ((i : Int) / (c : Int) == (k : Int)) = false := by simp only [beq_eq_false_iff_ne]; exact hdi
        obtain ⟨d0, d1⟩ := div_small i c (by omega)
        clear hx hx2 hsl hro hd
        obtain ⟨t, ht⟩ : ∃ t, t = B (rowL ((cellsL l).take i) c k) := ⟨_, rfl⟩
        have HT := Lib.hid ht
        rw [← ht]
        clear ht
        go_wp2
        go_roundg (n - (i + 1))
        case measure => omega
        case rel => exact ⟨i + 1, by omega, by omega, by go_num, by rw [HST.out, HT.out], rfl⟩
    · have hin : i = n := by omega
      have HT : Hid ((cellsL l).take i = cellsL l) := Lib.hid (by rw [hin, HN.out, List.take_length])
      have q1 : decide ((i : Int) < (n : Int)) = false := by simp; omega
      subst hin
      clear hro
      obtain ⟨t, ht⟩ : ∃ t, t = B (rowL ((cellsL l).take i) c k) := ⟨_, rfl⟩
      have HTT := Lib.hid ht
      rw [← ht]
      clear ht
      go_wp2
      go_ret
      exact ⟨by rw [← HT.out, ← HTT.out]; rfl, HB1.out⟩
set_option maxHeartbeats 4000000 in
set_option maxRecDepth 100000 in
theorem refRow_no (l : List UInt8) (c k : Int) (hc : c < 1) (hl : l.length ≤ 100000) (w : World) : Calls Try.prog 18 #[.string (B l), .int .i64 c, .int .i64 k] w fun e w' => e = .returned (.string (B [])) ∧ Below w.heap.size w w' := by
  have C := Lib.hid (refCells_is l w hl)
  have q : decide ((1 : Int) ≤ c) = false := by simp; omega
  have hb := cells_bound l
  obtain ⟨n, hn⟩ : ∃ n, n = (cellsL l).length := ⟨_, rfl⟩
  obtain ⟨s, hs⟩ : ∃ s, s = B (cellsL l) := ⟨_, rfl⟩
  have hsz : s.size = n := by rw [hs, B_size, hn]
  have HS := Lib.hid hs
  have hc1 : ¬ (1 : Int) ≤ c := by omega
  clear hs hn hb
  by_cases h0 : n = 0
  · subst h0
    go_enter Try.func18, Try.ntmps18
    go_wp2_with (go_at_call 10; refine C.out.mono ?_; rintro e w1 ⟨v, rfl, ho1, hb1⟩; rw [← HS.out]; have HB1 := Lib.hid hb1; clear hb1 ho1)
    go_loopg [9, 10] 0 (fun g s9 s10 wr => s10 = .int .i64 0 ∧ s9 = .string (B []) ∧ w1 = wr)
    case atStart => exact ⟨rfl, rfl, rfl⟩
    case round =>
      obtain ⟨rfl, rfl, rfl⟩ := hrel
      go_wp2
      go_ret
      exact ⟨rfl, HB1.out⟩
  · have hn0 : 0 < n := by omega
    have q2 : decide ((0 : Int) < (n : Int)) = true := by simp; omega
    go_enter Try.func18, Try.ntmps18
    go_wp2_with (go_at_call 10; refine C.out.mono ?_; rintro e w1 ⟨v, rfl, ho1, hb1⟩; rw [← HS.out]; have HB1 := Lib.hid hb1; clear hb1 ho1)
    go_loopg [9, 10] 0 (fun g s9 s10 wr => s10 = .int .i64 0 ∧ s9 = .string (B []) ∧ w1 = wr)
    case atStart => exact ⟨rfl, rfl, rfl⟩
    case round =>
      obtain ⟨rfl, rfl, rfl⟩ := hrel
      go_wp2
      go_ret
      exact ⟨rfl, HB1.out⟩
set_option maxHeartbeats 4000000 in
set_option maxRecDepth 100000 in
theorem refRow_neg (l : List UInt8) (c : Nat) (k : Int) (hc : 0 < c) (hk : k < 0) (hl : l.length ≤ 100000) (w : World) : Calls Try.prog 18 #[.string (B l), .int .i64 c, .int .i64 k] w fun e w' => e = .returned (.string (B [])) ∧ Below w.heap.size w w' := by
  have hb := cells_bound l
  have C := Lib.hid (refCells_is l w hl)
  have q : decide ((1 : Int) ≤ (c : Int)) = true := by simp; omega
  have q0 : ¬ (c : Int) = 0 := by omega
  have hc1 : 1 ≤ c := hc
  obtain ⟨n, hn⟩ : ∃ n, n = (cellsL l).length := ⟨_, rfl⟩
  obtain ⟨s, hs⟩ : ∃ s, s = B (cellsL l) := ⟨_, rfl⟩
  have hsz : s.size = n := by rw [hs, B_size, hn]
  have HS := Lib.hid hs
  rw [← hn] at hb
  have hnb : n ≤ 1000000 := by omega
  clear hs hn hb
  go_enter Try.func18, Try.ntmps18
  go_wp2_with (go_at_call 10; refine C.out.mono ?_; rintro e w1 ⟨v, rfl, ho1, hb1⟩; rw [← HS.out]; have HB1 := Lib.hid hb1; clear hb1 ho1)
  go_loopg [9, 10] n (fun g s9 s10 wr => ∃ i : Nat, i ≤ n ∧ n - i ≤ g ∧ s10 = .int .i64 i ∧ s9 = .string (B []) ∧ w1 = wr)
  case atStart => exact ⟨0, Nat.zero_le _, by omega, rfl, rfl, rfl⟩
  case round =>
    obtain ⟨i, hi, hg, rfl, rfl, rfl⟩ := hrel
    by_cases hlt : i < n
    · obtain ⟨d0, d1⟩ := div_small i c (by omega)
      have hdi : ¬ (i : Int) / (c : Int) = k := by omega
      have hdi2 : ((i : Int) / (c : Int) == k) = false := by simp only [beq_eq_false_iff_ne]; exact hdi
      go_wp2
      go_roundg (n - (i + 1))
      case measure => omega
      case rel => exact ⟨i + 1, by omega, by omega, by go_num, rfl, rfl⟩
    · have q1 : decide ((i : Int) < (n : Int)) = false := by simp; omega
      go_wp2
      go_ret
      exact ⟨rfl, HB1.out⟩
end Go.Proofs.Ytmnehlheflfpaaa.wrp
