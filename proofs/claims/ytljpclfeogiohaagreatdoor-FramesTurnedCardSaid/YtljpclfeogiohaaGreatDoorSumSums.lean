/- The sums: the program's Sum, More, Join and what they call. -/
import Derived.Test.YtljpclfeogiohaaGreatDoorWords
import Derived.Test.YtljpclfeogiohaaGreatDoorSumPure2
import Derived.LoopTactic
import Derived.Laws.Bits64b
import Derived.Outline
namespace Go.Proofs.YtljpclfeogiohaaGreatDoor.sum
open Go.RowKit Go.Lib

theorem tmod_bounds (n : Int) : -65534 ≤ n.tmod 65535 ∧ n.tmod 65535 ≤ 65534 := by
  have h := Int.tmod_eq_emod (a := n) (b := 65535)
  split at h <;> omega
theorem tmod_emod (n : Int) : n.tmod 65535 % 65535 = n % 65535 := by
  have h := Int.tmod_eq_emod (a := n) (b := 65535)
  split at h <;> omega

theorem number19 (a b : Nat) (w : World) (ha : a < 65535) (hb : b < 65535) :
    Calls Tryz.prog 34 #[.int .u32 a, .int .u32 b] w fun e w' => e = .returned (.int .u32 (num a b)) ∧ w = w' := by
  go_enter Tryz.func34, Tryz.ntmps34
  go_wp2
  go_ret
  exact ⟨ret_int (by unfold num; omega), rfl⟩
theorem take_snoc (s : ByteArray) (k : Nat) (h : k < s.size) : s.data.toList.take (k + 1) = s.data.toList.take k ++ [s[k]] := by
  rw [List.take_succ_eq_append_getElem (by simpa using h)]; rfl
theorem size_list (s : ByteArray) : s.data.toList.length = s.size := by simp

set_option maxHeartbeats 1000000 in
theorem sum11 (s : ByteArray) (w : World) (hs : s.size ≤ maxLen) :
    Calls Tryz.prog 24 #[.string s] w fun e w' => e = .returned (.int .u32 (sumN s.data.toList)) ∧ w = w' := by
  unfold maxLen at hs
  go_enter Tryz.func24, Tryz.ntmps24
  go_wp2
  go_loop [3, 4, 8] (fun a b i => ∃ k f g : Nat, k ≤ s.size ∧ i = .int .i64 k ∧ a = .int .u32 f ∧ b = .int .u32 g ∧ f < 65535 ∧ g < 65535 ∧ f = w1 (s.data.toList.take k) % 65535 ∧ g = w2 (s.data.toList.take k) % 65535) (fun _ _ i => s.size - (intOf i).toNat)
  case atStart => exact ⟨0, 0, 0, Nat.zero_le _, rfl, rfl, rfl, by decide, by decide, rfl, rfl⟩
  case round =>
    obtain ⟨k, f, g, hk, rfl, rfl, rfl, hf, hg, e1, e2⟩ := hrel
    have E1 := Lib.hid e1
    have E2 := Lib.hid e2
    clear e1 e2
    by_cases hlt : k < s.size
    · have hts := Lib.hid (take_snoc s k hlt)
      have hc := (s[k]).toNat_lt
      go_wp2
      go_round
      case rel =>
        refine ⟨k + 1, (f + s[k].toNat) % 65535, (g + (f + s[k].toNat) % 65535) % 65535, by omega, by go_num, by go_num, by go_num, Nat.mod_lt _ (by decide), Nat.mod_lt _ (by decide), ?_, ?_⟩
        · rw [hts.out, w1_snoc, E1.out]; omega
        · rw [hts.out, w2_snoc, E1.out, E2.out]; omega
      case measure => simp [intOf]; omega
    · obtain rfl : k = s.size := by omega
      go_wp2_with fail
      go_at_call 34
      refine (number19 f g _ hf hg).mono ?_
      rintro e w' ⟨rfl, rfl⟩
      go_wp2
      go_ret
      refine ⟨ret_int ?_, rfl⟩
      have t : s.data.toList.take s.size = s.data.toList := List.take_of_length_le (by simp)
      have q1 := E1.out
      have q2 := E2.out
      rw [t] at q1 q2
      rw [q1, q2, num_mod]
      rfl

end Go.Proofs.YtljpclfeogiohaaGreatDoor.sum
