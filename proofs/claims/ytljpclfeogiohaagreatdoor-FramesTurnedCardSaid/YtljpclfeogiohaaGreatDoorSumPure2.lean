/- What follows: one byte that is another one; bytes 0; counts; digits that are read. Plain lists and numbers. -/
import Derived.Test.YtljpclfeogiohaaGreatDoorSumPure
namespace Go.Proofs.YtljpclfeogiohaaGreatDoor.sum

theorem w1_differ (p r : List UInt8) (c n : UInt8) : (w1 (p ++ n :: r) : Int) = w1 (p ++ c :: r) + ((n.toNat : Int) - c.toNat) := by
  rw [w1_append, w1_append, w1, w1]; omega
theorem w2_differ (p r : List UInt8) (c n : UInt8) : (w2 (p ++ n :: r) : Int) = w2 (p ++ c :: r) + ((n.toNat : Int) - c.toNat) * (r.length + 1) := by
  rw [w2_append, w2_append, w2, w2, List.length_cons, List.length_cons]
  have e (x : Nat) : (((r.length + 1) * x : Nat) : Int) = (x : Int) * (r.length + 1) := by rw [Int.natCast_mul, Int.mul_comm]; rfl
  have e1 := e n.toNat
  have e2 := e c.toNat
  have e3 := Int.sub_mul (n.toNat : Int) (c.toNat : Int) (r.length + 1)
  omega

/-- The number that the law puts together: d more, and d times k more. -/
theorem differ_num (a b a' b' : Nat) (d e : Int) (h1 : (a' : Int) = a + d) (h2 : (b' : Int) = b + e) :
    ((num a' b' : Nat) : Int) = ((num a b / 65536 : Nat) + e.tmod 65535 + 65535) % 65535 * 65536 + ((num a b % 65536 : Nat) + d + 65535) % 65535 := by
  have t1 : e.tmod 65535 = e % 65535 ∨ e.tmod 65535 = e % 65535 - 65535 := by
    rcases Int.lt_or_le e 0 with h | h
    · have := Int.tmod_eq_emod (a := e) (b := 65535); split at this <;> omega
    · exact .inl (Int.tmod_eq_emod_of_nonneg h)
  unfold num
  rcases t1 with t1 | t1 <;> rw [t1] <;> omega
theorem differ_same (a b a' b' : Nat) (d : Int) (h1 : (a' : Int) = a + d) (hd : -255 ≤ d) (hd2 : d ≤ 255) (hb : d = 0 → b' = b) : num a' b' = num a b ↔ d = 0 := by
  constructor
  · intro h; unfold num at h; omega
  · intro h; have := hb h; unfold num; omega

/-- Join at any int. -/
def joinI (x y : Nat) (n : Int) : Nat := joinN x y (n % 65535).toNat
theorem joinI_lt (x y : Nat) (n : Int) : joinI x y n < 4294967296 := num_lt _ _
theorem joinI_nat (x y n : Nat) : joinI x y n = joinN x y n := by
  unfold joinI
  have : ((n : Int) % 65535).toNat = n % 65535 := by omega
  rw [this, joinN_mod]
theorem joinI_more (x y : Nat) (n : Int) : joinI x y (n + 65535) = joinI x y n := by unfold joinI; rw [Int.add_emod_right]
theorem joinI_less (x y : Nat) (n : Int) : joinI x y (n - 65535) = joinI x y n := by unfold joinI; rw [Int.sub_emod_right]
theorem joinI_zero (x y : Nat) : joinI x y 0 = num (lo x + lo y) (hi x + hi y) := by unfold joinI joinN; simp
theorem joinI_comm (x y : Nat) : joinI x y 0 = joinI y x 0 := by rw [joinI_zero, joinI_zero, Nat.add_comm, Nat.add_comm (hi x)]
theorem joinI_own (x y : Nat) (n : Int) : joinI (joinI x y n) 0 0 = joinI x y n := by
  rw [joinI_zero]
  unfold joinI joinN
  rw [lo_num, hi_num]
  have h1 : lo 0 = 0 := rfl
  have h2 : hi 0 = 0 := rfl
  rw [h1, h2, Nat.add_zero, Nat.add_zero, num_mod]
theorem num_low (a b : Nat) : num a b % 65536 < 65535 := by unfold num; omega
theorem num_high (a b : Nat) : num a b / 65536 < 65535 := by unfold num; omega

theorem sumN_front (n : Nat) (l : List UInt8) : sumN (List.replicate n 0 ++ l) = sumN l := by
  unfold sumN; rw [w1_append, w2_append, w1_zeros, w2_zeros]; simp
theorem sumN_back (n : Nat) (l : List UInt8) : sumN (l ++ List.replicate n 0) = joinI (sumN l) 0 n := by
  rw [joinI_nat, ← joinN_sum]
  have : sumN (List.replicate n 0) = 0 := by unfold sumN; rw [w1_zeros, w2_zeros]; rfl
  rw [this, List.length_replicate]
theorem sumN_zeros (n : Nat) : sumN (List.replicate n 0) = 0 := by unfold sumN; rw [w1_zeros, w2_zeros]; rfl

/-- What a digit says. -/
theorem hexD_lt {d : Nat} (h : d < 10) : (hexD d).toNat = 48 + d := by
  unfold hexD; rw [if_pos h]; exact UInt8.toNat_ofNat_of_lt' (by show _ < 256; omega)
theorem hexD_ge {d : Nat} (h : 10 ≤ d) (h2 : d < 16) : (hexD d).toNat = 87 + d := by
  unfold hexD; rw [if_neg (by omega)]; exact UInt8.toNat_ofNat_of_lt' (by show _ < 256; omega)
end Go.Proofs.YtljpclfeogiohaaGreatDoor.sum
