/- WrapsWhole. -/
import Derived.Test.YtmnehlheflfpaaaWrpDoes
namespace Go.Proofs.Ytmnehlheflfpaaa.wrp
open Go.RowKit Go.Lib
set_option linter.unusedVariables false
set_option linter.unusedSimpArgs false
set_option linter.unnecessarySimpa false
set_option linter.unusedSectionVars false

theorem row_minus (l : List UInt8) (c : Nat) (w : World) : Calls Try.prog 17 #[.string (B l), .int .i64 c, .int .i64 (-1)] w fun e w' => e = .returned (.string ⟨#[]⟩) ∧ Below w.heap.size w w' :=
  row_no l c (-1) (.inr (by decide)) w
theorem rowsN_pos (n c : Nat) : 1 ≤ rowsN n c := Nat.le_add_left 1 _
theorem rowsN_le (n c : Nat) : rowsN n c ≤ n + 1 := by
  unfold rowsN
  have := Nat.div_le_self (n - 1) c
  omega
set_option maxHeartbeats 4000000 in
set_option maxRecDepth 100000 in
theorem law_whole (l : List UInt8) (b : Nat) (hb : b < 256) (w : World) : Calls Try.prog 5 #[.string (B l), .int .u8 b] w fun e w' => e = .returned (.bool true) ∧ Below w.heap.size w w' := by
  obtain ⟨z, hz⟩ : ∃ z, z = l.length := ⟨_, rfl⟩
  by_cases hl : 500 < l.length
  · obtain ⟨s, hs⟩ : ∃ s, s = B l := ⟨_, rfl⟩
    have hsz : s.size = z := by rw [hs, B_size, hz]
    rw [← hs]
    rw [← hz] at hl
    clear hs hz
    go_enter Try.func5, Try.ntmps5
    go_wp2
    go_ret
    exact ⟨rfl, Below.refl _ _⟩
  · obtain ⟨c, hc⟩ : ∃ c, c = b + 1 := ⟨_, rfl⟩
    have hci : 1 + (b : Int) = (c : Int) := by omega
    have hc0 : 0 < c := by omega
    have hc1 : c ≤ 256 := by omega
    have hbd := cells_bound l
    obtain ⟨cs, hcs⟩ : ∃ cs, cs = cellsL l := ⟨_, rfl⟩
    have C1 := Lib.hid (fun w => cellsTell (cells_is l w (by omega)))
    have C2 := Lib.hid (fun w => rowsOf_yes l c hc0 (by omega) w)
    have C3 := Lib.hid (fun k w => row_yes l c k hc0 (by omega) w)
    have C4 := Lib.hid (fun w => row_minus l c w)
    rw [← hcs] at hbd C1 C2 C3
    obtain ⟨n, hn⟩ : ∃ n, n = rowsN cs.length c := ⟨_, rfl⟩
    obtain ⟨m, hm⟩ : ∃ m, m = cs.length := ⟨_, rfl⟩
    have hn1 := rowsN_pos cs.length c
    have hn2 := rowsN_le cs.length c
    have HOUT : Hid (rowL cs c n = []) := Lib.hid (rowL_out cs c n hc0 (by omega))
    have HJ := Lib.hid (rows_join cs c)
    have HALL : Hid (cs.take (n * c) = cs) := Lib.hid (by rw [hn]; exact rows_all cs c hc0)
    have HFULL : Hid (∀ k, k + 1 < n → (rowL cs c k).length = c) := Lib.hid fun k h => rowL_full cs c k hc0 (by omega)
    have HPOS : Hid (∀ k, k < n → 1 < n → 0 < (rowL cs c k).length) := Lib.hid fun k h1 h2 => rowL_pos cs c k hc0 (by omega) (by omega)
    have HLE : Hid (∀ k, (rowL cs c k).length ≤ c) := Lib.hid fun k => by rw [rowL_len]; omega
    rw [← hn] at hn1 hn2 C2
    rw [← hm] at hn2 hbd
    obtain ⟨t, ht⟩ : ∃ t, t = B cs := ⟨_, rfl⟩
    have htz : t.size = m := by rw [ht, B_size, hm]
    obtain ⟨s, hs⟩ : ∃ s, s = B l := ⟨_, rfl⟩
    have hsz : s.size = z := by rw [hs, B_size, hz]
    rw [← hs] at C1 C2 C3 C4 ⊢
    rw [← ht, ← hz] at C1
    have HT := Lib.hid ht
    have hm' : m ≤ 4000 := by omega
    have hzl : z ≤ 500 := by omega
    rw [← hz] at hl
    have htake : ∀ k, (cs.take k).length ≤ m := fun k => by rw [List.length_take, hm]; omega
    have HTK := Lib.hid htake
    clear hs ht hz hc hcs hn hm hbd htake
    go_enter Try.func5, Try.ntmps5
    go_wp2_with fail
    go_at_call 9
    refine (C1.out _).mono ?_
    rintro e w1 ⟨A1, c1, rfl, h1, b1⟩
    have B1 := Lib.hid b1
    clear h1 b1
    go_wp2_with fail
    go_at_call 15
    refine (C2.out _).mono ?_
    rintro e w2 ⟨rfl, b2⟩
    have HB0 : Below w.heap.size w w2 := B1.out.trans (b2.mono B1.out.size)
    clear b2 B1
    have p1 : ¬ (n : Int) < 1 := by omega
    have p2 : ¬ (m : Int) + 1 < (n : Int) := by omega
    go_wp2
    go_loopg [9, 10, 11] n (fun g s9 s10 s11 wr => ∃ k : Nat, k ≤ n ∧ n - k ≤ g ∧ s10 = .int .i64 k ∧ s9 = .string (B (cs.take (k * c))) ∧ Below w.heap.size w wr)
    case atStart => exact ⟨0, Nat.zero_le _, by omega, rfl, by rw [Nat.zero_mul, List.take_zero], HB0⟩
    case round =>
      obtain ⟨k, hk, hg, rfl, rfl, hB⟩ := hrel
      clear HB0
      have HB := Lib.hid hB
      clear hB
      by_cases hlt : k < n
      · have C := Lib.hid (C3.out k wr)
        have HJK : Hid (B (cs.take (k * c)) ++ B (rowL cs c k) = B (cs.take ((k + 1) * c))) := Lib.hid (by rw [add_B, HJ.out k])
        have ha : (B (cs.take (k * c))).size ≤ m := by rw [B_size]; exact HTK.out _
        obtain ⟨x, hx⟩ : ∃ x, x = (rowL cs c k).length := ⟨_, rfl⟩
        have hr : (B (rowL cs c k)).size = x := by rw [B_size, hx]
        have hxc : x ≤ c := by rw [hx]; exact HLE.out k
        have hxf : k + 1 < n → x = c := fun h => by rw [hx]; exact HFULL.out k h
        have hxp : 1 < n → 0 < x := fun h => by rw [hx]; exact HPOS.out k hlt h
        obtain ⟨al, hal⟩ : ∃ al, al = B (cs.take (k * c)) := ⟨_, rfl⟩
        obtain ⟨r, hr2⟩ : ∃ r, r = B (rowL cs c k) := ⟨_, rfl⟩
        rw [← hal] at HJK ha ⊢
        rw [← hr2] at HJK hr C
        clear hx hal hr2
        by_cases hlast : k + 1 < n
        · have hxe := hxf hlast
          subst hxe
          have p3 : (k : Int) < (n : Int) - 1 := by omega
          have p4 : ¬ x = 0 := by omega
          clear hxf hxp
          go_wp2_with fail
          go_at_call 17
          refine C.out.mono ?_
          rintro e w3 ⟨rfl, b3⟩
          have HB3 := Lib.hid (HB.out.trans (b3.mono HB.out.size))
          clear b3
          go_wp2
          go_roundg (n - (k + 1))
          case measure => omega
          case rel => exact ⟨k + 1, by omega, by omega, by go_num, by rw [← HJK.out], HB3.out⟩
        · have p3 : ¬ (k : Int) < (n : Int) - 1 := by omega
          have p5 : ¬ (c : Int) < (x : Int) := by omega
          clear hxf
          by_cases hx0 : x = 0
          · have hn1' : n = 1 := by
              rcases Nat.lt_or_ge 1 n with h | h
              · have := hxp h; omega
              · omega
            subst hx0
            have p6 : ¬ (1 : Int) < (n : Int) := by omega
            clear hxp hn1'
            go_wp2_with fail
            go_at_call 17
            refine C.out.mono ?_
            rintro e w3 ⟨rfl, b3⟩
            have HB3 := Lib.hid (HB.out.trans (b3.mono HB.out.size))
            clear b3
            go_wp2
            go_roundg (n - (k + 1))
            case measure => omega
            case rel => exact ⟨k + 1, by omega, by omega, by go_num, by rw [← HJK.out], HB3.out⟩
          · clear hxp
            go_wp2_with fail
            go_at_call 17
            refine C.out.mono ?_
            rintro e w3 ⟨rfl, b3⟩
            have HB3 := Lib.hid (HB.out.trans (b3.mono HB.out.size))
            clear b3
            go_wp2
            go_roundg (n - (k + 1))
            case measure => omega
            case rel => exact ⟨k + 1, by omega, by omega, by go_num, by rw [← HJK.out], HB3.out⟩
      · have hkn : k = n := by omega
        subst hkn
        have e1 : B (cs.take (k * c)) = t := by rw [HALL.out, HT.out]
        rw [e1]
        have C := Lib.hid (fun W => C3.out k W)
        rw [HOUT.out] at C
        clear e1
        go_wp2_with fail
        go_at_call 17
        refine (C4.out _).mono ?_
        rintro e w3 ⟨rfl, b3⟩
        have HB3 := Lib.hid (HB.out.trans (b3.mono HB.out.size))
        clear b3
        go_wp2_with fail
        go_at_call 17
        refine (C.out _).mono ?_
        rintro e w4 ⟨rfl, b4⟩
        have HB4 := Lib.hid (HB3.out.trans (b4.mono HB3.out.size))
        clear b4
        go_wp2_with fail
        go_at_call 12
        refine (does_is _).mono ?_
        rintro e w5 ⟨rfl, b5⟩
        have HB5 := Lib.hid (HB4.out.trans (b5.mono HB4.out.size))
        clear b5
        go_wp2
        go_ret
        exact ⟨rfl, HB5.out⟩
end Go.Proofs.Ytmnehlheflfpaaa.wrp
