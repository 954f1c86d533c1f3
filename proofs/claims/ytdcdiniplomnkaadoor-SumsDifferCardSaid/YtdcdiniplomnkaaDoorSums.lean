/- The sums: the program's Sum, More, Join and what they call. -/
import Derived.Test.YtdcdiniplomnkaaDoorWords
import Derived.Test.YtdcdiniplomnkaaDoorPure2
import Derived.LoopTactic
import Derived.Laws.Bits64b
import Derived.Outline
namespace Go.Proofs.YtdcdiniplomnkaaDoor
open Go.RowKit Go.Lib

theorem tmod_bounds (n : Int) : -65534 ≤ n.tmod 65535 ∧ n.tmod 65535 ≤ 65534 := by
  have h := Int.tmod_eq_emod (a := n) (b := 65535)
  split at h <;> omega
theorem tmod_emod (n : Int) : n.tmod 65535 % 65535 = n % 65535 := by
  have h := Int.tmod_eq_emod (a := n) (b := 65535)
  split at h <;> omega

theorem number19 (a b : Nat) (w : World) (ha : a < 65535) (hb : b < 65535) :
    Calls Tryd.prog 19 #[.int .u32 a, .int .u32 b] w fun e w' => e = .returned (.int .u32 (num a b)) ∧ w = w' := by
  go_enter Tryd.func19, Tryd.ntmps19
  go_wp2
  go_ret
  exact ⟨ret_int (by unfold num; omega), rfl⟩
theorem parts22 (a : Nat) (w : World) (ha : a < 4294967296) :
    Calls Tryd.prog 22 #[.int .u32 a] w fun e w' => e = .returned (.tuple #[.int .u32 (lo a), .int .u32 (hi a)]) ∧ w = w' := by
  go_enter Tryd.func22, Tryd.ntmps22
  go_wp2
  go_ret2
  exact ⟨by unfold lo hi; rfl, rfl⟩
theorem times23 (n : Int) (w : World) (_h0 : -9223372036854775808 ≤ n) (_h1 : n ≤ 9223372036854775807) :
    Calls Tryd.prog 23 #[.int .i64 n] w fun e w' => e = .returned (.int .u32 (n % 65535)) ∧ w = w' := by
  have hb := tmod_bounds n
  have he := Lib.hid (tmod_emod n)
  obtain ⟨hb1, hb2⟩ := hb
  go_enter Tryd.func23, Tryd.ntmps23
  go_wp2
  go_ret
  exact ⟨ret_int (by have := he.out; omega), rfl⟩

set_option maxHeartbeats 1000000 in
theorem join15 (x y : Nat) (n : Int) (w : World) (hx : x < 4294967296) (hy : y < 4294967296) (h0 : -9223372036854775808 ≤ n) (h1 : n ≤ 9223372036854775807) :
    Calls Tryd.prog 15 #[.int .u32 x, .int .u32 y, .int .i64 n] w fun e w' => e = .returned (.int .u32 (joinI x y n)) ∧ w = w' := by
  have a1 := lo_lt x
  have a2 := lo_lt y
  have a3 := hi_lt x
  have a4 := hi_lt y
  obtain ⟨t, ht, hn⟩ : ∃ t : Nat, t < 65535 ∧ n % 65535 = t := ⟨(n % 65535).toNat, by omega, by omega⟩
  have ct := times23 n w h0 h1
  rw [hn] at ct
  have p1 : (lo x : Int) * (t : Int) ≤ 4294836225 := by
    have h : lo x * t ≤ 65535 * 65535 := Nat.mul_le_mul (by omega) (by omega)
    have e : (lo x : Int) * (t : Int) = ((lo x * t : Nat) : Int) := (Int.natCast_mul _ _).symm
    rw [e]; omega
  have p0 : 0 ≤ (lo x : Int) * (t : Int) := Int.mul_nonneg (Int.natCast_nonneg _) (Int.natCast_nonneg _)
  have e1 : (lo x : Int) * (t : Int) = ((t * lo x : Nat) : Int) := by rw [Int.natCast_mul, Int.mul_comm]
  have HE := Lib.hid e1
  have HJ : Hid (joinI x y n = num (lo x + lo y) (hi x + hi y + t * lo x)) := Lib.hid (by unfold joinI joinN; rw [hn]; rfl)
  clear e1 hn
  go_enter Tryd.func15, Tryd.ntmps15
  go_wp2_with fail
  go_at_call 22
  refine (parts22 x w hx).mono ?_
  rintro e w' ⟨rfl, rfl⟩
  go_wp2_with fail
  go_at_call 22
  refine (parts22 y _ hy).mono ?_
  rintro e w' ⟨rfl, rfl⟩
  go_wp2_with fail
  go_at_call 23
  refine ct.mono ?_
  rintro e w' ⟨rfl, rfl⟩
  go_wp2_with fail
  have eA : ((lo x : Int) + (lo y : Int)) % 65535 = (((lo x + lo y) % 65535 : Nat) : Int) := by omega
  have eB : ((hi x : Int) + (hi y : Int) + (lo x : Int) * (t : Int)) % 65535 = (((hi x + hi y + t * lo x) % 65535 : Nat) : Int) := by rw [HE.out]; omega
  rw [eA, eB]
  refine (number19 _ _ _ (Nat.mod_lt _ (by decide)) (Nat.mod_lt _ (by decide))).mono ?_
  rintro e w' ⟨rfl, rfl⟩
  clear eA eB
  go_wp2
  go_ret
  exact ⟨ret_int (by rw [HJ.out, num_mod]), rfl⟩

theorem take_snoc (s : ByteArray) (k : Nat) (h : k < s.size) : s.data.toList.take (k + 1) = s.data.toList.take k ++ [s[k]] := by
  rw [List.take_succ_eq_append_getElem (by simpa using h)]; rfl
theorem size_list (s : ByteArray) : s.data.toList.length = s.size := by simp

set_option maxHeartbeats 1000000 in
theorem sum11 (s : ByteArray) (w : World) (hs : s.size ≤ maxLen) :
    Calls Tryd.prog 11 #[.string s] w fun e w' => e = .returned (.int .u32 (sumN s.data.toList)) ∧ w = w' := by
  unfold maxLen at hs
  go_enter Tryd.func11, Tryd.ntmps11
  go_wp2
  go_loop [3, 4, 8] (fun a b i => ∃ k f g : Nat, k ≤ s.size ∧ i = .int .i64 k ∧ a = .int .u32 f ∧ b = .int .u32 g ∧ f < 65535 ∧ g < 65535 ∧ f = w1 (s.data.toList.take k) % 65535 ∧ g = w2 (s.data.toList.take k) % 65535) (fun _ _ i => s.size - (intOf i).toNat)
  case atStart => exact ⟨0, 0, 0, Nat.zero_le _, rfl, rfl, rfl, by decide, by decide, rfl, rfl⟩
  case round =>
    obtain ⟨k, f, g, hk, rfl, rfl, rfl, hf, hg, e1, e2⟩ := hrel
    have E1 := Lib.hid e1
    have E2 := Lib.hid e2
    clear e1 e2
    by_cases hlt : k < s.size
    · have hts := Lib.hid (take_snoc s k hlt)
      have hc := (s[k]).toNat_lt
      go_wp2
      go_round
      case rel =>
        refine ⟨k + 1, (f + s[k].toNat) % 65535, (g + (f + s[k].toNat) % 65535) % 65535, by omega, by go_num, by go_num, by go_num, Nat.mod_lt _ (by decide), Nat.mod_lt _ (by decide), ?_, ?_⟩
        · rw [hts.out, w1_snoc, E1.out]; omega
        · rw [hts.out, w2_snoc, E1.out, E2.out]; omega
      case measure => simp [intOf]; omega
    · obtain rfl : k = s.size := by omega
      go_wp2_with fail
      go_at_call 19
      refine (number19 f g _ hf hg).mono ?_
      rintro e w' ⟨rfl, rfl⟩
      go_wp2
      go_ret
      refine ⟨ret_int ?_, rfl⟩
      have t : s.data.toList.take s.size = s.data.toList := List.take_of_length_le (by simp)
      have q1 := E1.out
      have q2 := E2.out
      rw [t] at q1 q2
      rw [q1, q2, num_mod]
      rfl

theorem more13 (x : Nat) (s : ByteArray) (w : World) (hx : x < 4294967296) (hs : s.size ≤ maxLen) :
    Calls Tryd.prog 13 #[.int .u32 x, .string s] w fun e w' => e = .returned (.int .u32 (joinI x (sumN s.data.toList) s.size)) ∧ w = w' := by
  have hsum := sumN_lt s.data.toList
  have hs' : s.size ≤ 9223372036854775807 := by unfold maxLen at hs; omega
  go_enter Tryd.func13, Tryd.ntmps13
  go_wp2_with fail
  go_at_call 11
  refine (sum11 s w hs).mono ?_
  rintro e w' ⟨rfl, rfl⟩
  go_wp2_with fail
  go_at_call 15
  refine (join15 x _ s.size w hx hsum (by omega) (by omega)).mono ?_
  rintro e w' ⟨rfl, rfl⟩
  go_wp2
  go_ret
  exact ⟨rfl, rfl⟩
end Go.Proofs.YtdcdiniplomnkaaDoor
