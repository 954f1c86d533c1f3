/- The document's answers: Sum, More, Join and what they call. -/
import Derived.Test.YtljpclfeogiohaaGreatDoorSumSums
namespace Go.Proofs.YtljpclfeogiohaaGreatDoor.sum
open Go.RowKit Go.Lib

theorem half24 (n : Int) (w : World) (_h0 : -9223372036854775808 ≤ n) (_h1 : n ≤ 9223372036854775807) :
    Calls Tryz.prog 69 #[.int .i64 n] w fun e w' => e = .returned (.int .u32 (n % 65535)) ∧ w = w' := by
  have hb := tmod_bounds n
  have he := Lib.hid (Int.tmod_eq_emod (a := n) (b := 65535))
  obtain ⟨hb1, hb2⟩ := hb
  by_cases hlt : n.tmod 65535 < 0
  all_goals
    go_enter Tryz.func69, Tryz.ntmps69
    go_wp2
    go_ret
    refine ⟨ret_int ?_, rfl⟩
    have h := he.out
    split at h <;> omega
theorem number21 (a b : Nat) (w : World) (ha : a ≤ 9223372036854775807) (hb : b ≤ 9223372036854775807) :
    Calls Tryz.prog 54 #[.int .i64 a, .int .i64 b] w fun e w' => e = .returned (.int .u32 (num a b)) ∧ w = w' := by
  go_enter Tryz.func54, Tryz.ntmps54
  go_wp2_with (go_at_call 69; refine (half24 _ _ (by omega) (by omega)).mono ?_; rintro e w' ⟨rfl, rfl⟩)
  go_ret
  exact ⟨ret_int (by unfold num; omega), rfl⟩
set_option maxHeartbeats 1000000 in
theorem weigh20 (s : ByteArray) (w : World) (hs : s.size ≤ 40000) :
    Calls Tryz.prog 53 #[.string s] w fun e w' => e = .returned (.tuple #[.int .i64 (w1 s.data.toList), .int .i64 (w2 s.data.toList)]) ∧ w = w' := by
  have HB1 := Lib.hid (w1_le s.data.toList)
  go_enter Tryz.func53, Tryz.ntmps53
  go_wp2
  go_loop [2, 3, 4] (fun a b i => ∃ k f g : Nat, k ≤ s.size ∧ i = .int .i64 k ∧ a = .int .i64 f ∧ b = .int .i64 g ∧ f ≤ 255 * k ∧ g ≤ 10200000 * k ∧ f = w1 (s.data.toList.take k) ∧ g = w2 (s.data.toList.take k) + (s.size - k) * w1 (s.data.toList.take k)) (fun _ _ i => s.size - (intOf i).toNat)
  case atStart => exact ⟨0, 0, 0, Nat.zero_le _, rfl, rfl, rfl, by decide, by decide, rfl, by simp [w1, w2]⟩
  case round =>
    obtain ⟨k, f, g, hk, rfl, rfl, rfl, hf, hg, e1, e2⟩ := hrel
    have E1 := Lib.hid e1
    have E2 := Lib.hid e2
    clear e1 e2
    by_cases hlt : k < s.size
    · have hts := Lib.hid (take_snoc s k hlt)
      have hc := (s[k]).toNat_lt
      have p0 : 0 ≤ ((s.size : Int) - (k : Int)) * ((s[k]).toNat : Int) := Int.mul_nonneg (by omega) (by omega)
      have p2 : ((s.size - k) * (s[k]).toNat : Nat) ≤ 10200000 := by
        have : (s.size - k) * (s[k]).toNat ≤ 40000 * 255 := Nat.mul_le_mul (by omega) (by omega)
        omega
      have pe : ((s.size : Int) - (k : Int)) * ((s[k]).toNat : Int) = (((s.size - k) * (s[k]).toNat : Nat) : Int) := by rw [Int.natCast_mul, Int.natCast_sub (by omega)]
      have p1 : ((s.size : Int) - (k : Int)) * ((s[k]).toNat : Int) ≤ 10200000 := by rw [pe]; omega
      have PE := Lib.hid pe
      clear pe
      go_wp2
      go_round
      case rel =>
        refine ⟨k + 1, f + s[k].toNat, g + (s.size - k) * s[k].toNat, by omega, by go_num, by go_num, ?_, by omega, by omega, ?_, ?_⟩
        · rw [PE.out]; go_num
        · rw [hts.out, w1_snoc, E1.out]
        · rw [hts.out, w1_snoc, w2_snoc, E2.out, Nat.mul_add]
          have q : (s.size - k) = (s.size - (k + 1)) + 1 := by omega
          rw [q, Nat.add_mul, Nat.add_mul]; omega
      case measure => simp [intOf]; omega
    · obtain rfl : k = s.size := by omega
      go_wp2
      go_ret2
      have t : s.data.toList.take s.size = s.data.toList := List.take_of_length_le (by simp)
      have q1 := E1.out
      have q2 := E2.out
      rw [t] at q1 q2
      rw [Nat.sub_self, Nat.zero_mul, Nat.add_zero] at q2
      exact ⟨by rw [q1, q2]; rfl, rfl⟩
theorem refSum12 (s : ByteArray) (w : World) (hs : s.size ≤ 40000) :
    Calls Tryz.prog 37 #[.string s] w fun e w' => e = .returned (.int .u32 (sumN s.data.toList)) ∧ w = w' := by
  have b1 := w1_le s.data.toList
  have b2 := w2_le s.data.toList
  rw [size_list] at b1 b2
  have b3 : s.size * s.size ≤ 40000 * 40000 := Nat.mul_le_mul hs hs
  have c1 : w1 s.data.toList ≤ 9223372036854775807 := by omega
  have c2 : w2 s.data.toList ≤ 9223372036854775807 := by omega
  clear b1 b2 b3
  go_enter Tryz.func37, Tryz.ntmps37
  go_wp2_with (go_at_call 53; refine (weigh20 s w hs).mono ?_; rintro e w' ⟨rfl, rfl⟩)
  go_at_call 54
  refine (number21 _ _ _ c1 c2).mono ?_
  rintro e w' ⟨rfl, rfl⟩
  go_wp2
  go_ret
  exact ⟨rfl, rfl⟩

end Go.Proofs.YtljpclfeogiohaaGreatDoor.sum
