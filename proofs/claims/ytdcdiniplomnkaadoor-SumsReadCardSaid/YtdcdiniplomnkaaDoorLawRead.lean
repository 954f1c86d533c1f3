/- SumsRead, walked. -/
import Derived.Test.YtdcdiniplomnkaaDoorHex
namespace Go.Proofs.YtdcdiniplomnkaaDoor
open Go.RowKit Go.Lib

theorem digs_get (n : Nat) : ∀ (x j : Nat) (h : j < (digs n x).length), (digs n x)[j] = hexD (x / 16 ^ (n - 1 - j) % 16) := by
  induction n with
  | zero => intro x j h; simp [digs] at h
  | succ n ih =>
    intro x j h
    have hj : j < n + 1 := by rw [digs_length] at h; exact h
    have e := digs_front n x
    rcases Nat.eq_zero_or_pos j with rfl | h0
    · simp [e]
    · obtain ⟨i, rfl⟩ : ∃ i, j = i + 1 := ⟨j - 1, by omega⟩
      have hi : i < (digs n x).length := by rw [digs_length]; omega
      have : (digs (n + 1) x)[i + 1] = (digs n x)[i] := by simp [e]
      rw [this, ih x i hi, show n + 1 - 1 - (i + 1) = n - 1 - i by omega]
theorem hex_get (x j : Nat) (h : j < (B (hexN x)).size) : (B (hexN x))[j] = hexD (x / 16 ^ (7 - j) % 16) := by
  have hl : j < (digs 8 x).length := by rw [B_size] at h; exact h
  exact digs_get 8 x j hl
theorem read_step (x j : Nat) (h : j < 8) : 16 * (x / 16 ^ (8 - j)) + x / 16 ^ (7 - j) % 16 = x / 16 ^ (8 - (j + 1)) := by
  have e : x / 16 ^ (8 - j) = x / 16 ^ (7 - j) / 16 := by rw [Nat.div_div_eq_div_mul, ← Nat.pow_succ, show (7 - j).succ = 8 - j by omega]
  rw [e, show 8 - (j + 1) = 7 - j by omega]
  omega

set_option maxHeartbeats 2000000 in
theorem law9 (x : Nat) (w : World) (hx : x < 4294967296) (hV : Vars w.heap.size w) :
    Calls Tryd.prog 9 #[.int .u32 x] w fun e w' => e = .returned (.bool true) ∧ Below w.heap.size w w' := by
  go_enter Tryd.func9, Tryd.ntmps9
  go_wp2_with fail
  go_at_call 17
  refine (hex17 x w hx hV).mono ?_
  rintro e w1 ⟨rfl, hB⟩
  have V1 := hV.next hB
  have hz := hB.size
  clear hV
  obtain ⟨s, hs⟩ : ∃ s, s = B (hexN x) := ⟨_, rfl⟩
  have HS := Lib.hid hs
  have s8 : s.size = 8 := by rw [hs, B_size]; exact digs_length 8 x
  rw [← hs]
  have hl1 : s.size ≤ 8 := by omega
  have hl2 : 8 ≤ s.size := by omega
  have H8 := Lib.hid s8
  clear hs s8
  go_wp2_with fail
  go_loop [4, 5] (fun a i => ∃ j v : Nat, j ≤ 8 ∧ i = .int .i64 j ∧ a = .int .u32 v ∧ v = x / 16 ^ (8 - j)) (fun _ i => 8 - (RowKit.intOf i).toNat)
  case atStart => exact ⟨0, 0, by decide, rfl, rfl, by rw [Nat.div_eq_of_lt]; exact hx⟩
  case round =>
    obtain ⟨j, v, hj, rfl, rfl, hv⟩ := hrel
    have HV := Lib.hid hv
    clear hv
    by_cases hlt : j < 8
    · have hjs : j < s.size := by omega
      have hd : s[j].toNat = (hexD (x / 16 ^ (7 - j) % 16)).toNat := by
        have e := HS.out
        subst e
        rw [hex_get x j hjs]
      have st := read_step x j hlt
      rw [← HV.out] at st
      have hle : x / 16 ^ (8 - (j + 1)) ≤ x := Nat.div_le_self _ _
      have hmod : x / 16 ^ (7 - j) % 16 < 16 := Nat.mod_lt _ (by decide)
      generalize x / 16 ^ (7 - j) % 16 = d at hd st hmod
      have ST := Lib.hid st
      have hv16 : 16 * v + d ≤ 4294967295 := by rw [st]; omega
      clear st hle
      by_cases h10 : d < 10
      · rw [hexD_lt h10] at hd
        have HD := Lib.hid hd
        have c1 : 48 ≤ s[j].toNat := by omega
        have c2 : s[j].toNat ≤ 57 := by omega
        have c3 : 16 * v + (s[j].toNat - 48) ≤ 4294967295 := by omega
        clear hd
        go_wp2
        go_round
        case rel => exact ⟨j + 1, v * 16 + d, by omega, by go_num, by rw [HD.out]; congr 1; omega, by have := ST.out; omega⟩
        case measure => simp [RowKit.intOf]; omega
      · rw [hexD_ge (by omega) hmod] at hd
        have HD := Lib.hid hd
        have c1 : 97 ≤ s[j].toNat := by omega
        have c2 : s[j].toNat ≤ 102 := by omega
        have c3 : 16 * v + (s[j].toNat - 87) ≤ 4294967295 := by omega
        clear hd
        go_wp2
        go_round
        case rel => exact ⟨j + 1, v * 16 + d, by omega, by go_num, by rw [HD.out]; congr 1; omega, by have := ST.out; omega⟩
        case measure => simp [RowKit.intOf]; omega
    · obtain rfl : j = 8 := by omega
      have e8 : v = x := by rw [HV.out, Nat.sub_self, Nat.pow_zero, Nat.div_one]
      subst e8
      go_wp2_with fail
      go_at_call 10
      refine (told10 _ V1).mono ?_
      rintro e w' ⟨rfl, hB2⟩
      go_wp2
      go_ret
      exact ⟨rfl, hB.trans (hB2.mono hz)⟩
end Go.Proofs.YtdcdiniplomnkaaDoor
