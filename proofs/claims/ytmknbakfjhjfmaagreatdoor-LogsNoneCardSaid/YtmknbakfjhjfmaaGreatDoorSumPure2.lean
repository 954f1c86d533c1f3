/- What follows: one byte that is another one; bytes 0; counts; digits that are read. Plain lists and numbers. -/
/-! What a text weighs, and digits to the base 16, on plain lists and numbers. -/
namespace Go.Proofs.YtmknbakfjhjfmaaGreatDoor.sum

/-- All bytes, added. -/
def w1 : List UInt8 → Nat
  | [] => 0
  | c :: r => c.toNat + w1 r
/-- Each byte as often as there are bytes from it on. -/
def w2 : List UInt8 → Nat
  | [] => 0
  | c :: r => (r.length + 1) * c.toNat + w2 r

theorem w1_append (l r : List UInt8) : w1 (l ++ r) = w1 l + w1 r := by
  induction l with
  | nil => simp [w1]
  | cons c l ih => rw [List.cons_append, w1, w1, ih]; omega
theorem w2_append (l r : List UInt8) : w2 (l ++ r) = w2 l + r.length * w1 l + w2 r := by
  induction l with
  | nil => simp [w1, w2]
  | cons c l ih =>
    rw [List.cons_append, w2, w2, w1, ih, List.length_append]
    have e : (l.length + r.length + 1) * c.toNat = (l.length + 1) * c.toNat + r.length * c.toNat := by
      rw [show l.length + r.length + 1 = (l.length + 1) + r.length by omega, Nat.add_mul]
    rw [e, Nat.mul_add]; omega
theorem w1_snoc (l : List UInt8) (c : UInt8) : w1 (l ++ [c]) = w1 l + c.toNat := by rw [w1_append]; simp [w1]
theorem w2_snoc (l : List UInt8) (c : UInt8) : w2 (l ++ [c]) = w2 l + w1 l + c.toNat := by rw [w2_append]; simp [w2]
theorem w1_zeros (n : Nat) : w1 (List.replicate n 0) = 0 := by
  induction n with
  | zero => rfl
  | succ n ih => rw [List.replicate_succ, w1, ih]; rfl
theorem w2_zeros (n : Nat) : w2 (List.replicate n 0) = 0 := by
  induction n with
  | zero => rfl
  | succ n ih => rw [List.replicate_succ, w2, ih]; simp
theorem w1_le (l : List UInt8) : w1 l ≤ 255 * l.length := by
  induction l with
  | nil => simp [w1]
  | cons c r ih => rw [w1, List.length_cons]; have := c.toNat_lt; omega
theorem w2_le (l : List UInt8) : w2 l ≤ 255 * (l.length * l.length) := by
  induction l with
  | nil => simp [w2]
  | cons c r ih =>
    rw [w2, List.length_cons]
    have h : (r.length + 1) * c.toNat ≤ (r.length + 1) * 255 := Nat.mul_le_mul_left _ (by have := c.toNat_lt; omega)
    have e : (r.length + 1) * (r.length + 1) = r.length * r.length + 2 * r.length + 1 := by rw [Nat.add_mul, Nat.mul_add]; omega
    omega

/-- The number of two parts, each modulo 65535. -/
def num (a b : Nat) : Nat := 65536 * (b % 65535) + a % 65535
def sumN (l : List UInt8) : Nat := num (w1 l) (w2 l)
theorem num_lt (a b : Nat) : num a b < 4294967296 := by unfold num; omega
theorem sumN_lt (l : List UInt8) : sumN l < 4294967296 := num_lt _ _
/-- The parts of a number, not yet modulo. -/
def lo (x : Nat) : Nat := x % 65536 % 65535
def hi (x : Nat) : Nat := x / 65536 % 65535
theorem lo_num (a b : Nat) : lo (num a b) = a % 65535 := by unfold lo num; omega
theorem hi_num (a b : Nat) : hi (num a b) = b % 65535 := by unfold hi num; omega
theorem lo_lt (x : Nat) : lo x < 65535 := Nat.mod_lt _ (by decide)
theorem hi_lt (x : Nat) : hi x < 65535 := Nat.mod_lt _ (by decide)
theorem num_mod (a b : Nat) : num (a % 65535) (b % 65535) = num a b := by unfold num; omega
/-- Join at a count t. -/
def joinN (x y t : Nat) : Nat := num (lo x + lo y) (hi x + hi y + t * lo x)
theorem joinN_lt (x y t : Nat) : joinN x y t < 4294967296 := num_lt _ _
theorem mul_mod_eq (a t : Nat) : t % 65535 * a % 65535 = t * a % 65535 := by rw [Nat.mul_mod, Nat.mod_mod, ← Nat.mul_mod]
theorem num_congr {a b c d : Nat} (h1 : a % 65535 = c % 65535) (h2 : b % 65535 = d % 65535) : num a b = num c d := by unfold num; rw [h1, h2]
theorem joinN_mod (x y t : Nat) : joinN x y (t % 65535) = joinN x y t := by
  unfold joinN
  have := mul_mod_eq (lo x) t
  exact num_congr rfl (by rw [Nat.add_mod _ (t % 65535 * lo x), this, ← Nat.add_mod])
theorem joinN_sum (l r : List UInt8) : joinN (sumN l) (sumN r) r.length = sumN (l ++ r) := by
  unfold joinN sumN
  rw [lo_num, lo_num, hi_num, hi_num, w1_append, w2_append]
  refine num_congr (by omega) ?_
  have h : (r.length * (w1 l % 65535)) % 65535 = (r.length * w1 l) % 65535 := by rw [Nat.mul_mod, Nat.mod_mod, ← Nat.mul_mod]
  omega

/-- A digit to the base 16. -/
def hexD (d : Nat) : UInt8 := UInt8.ofNat (if d < 10 then 48 + d else 87 + d)
/-- The last n digits of x, the highest first. -/
def digs : Nat → Nat → List UInt8
  | 0, _ => []
  | n + 1, x => digs n (x / 16) ++ [hexD (x % 16)]
theorem digs_length (n x : Nat) : (digs n x).length = n := by
  induction n generalizing x with
  | zero => rfl
  | succ n ih => rw [digs, List.length_append, ih]; rfl
theorem digs_zero (n : Nat) : digs n 0 = List.replicate n 48 := by
  induction n with
  | zero => rfl
  | succ n ih => rw [digs, Nat.zero_div, ih, List.replicate_succ']; rfl
theorem digs_pad (j : Nat) : ∀ k x, x < 16 ^ k → digs (k + j) x = List.replicate j 48 ++ digs k x := by
  intro k
  induction k with
  | zero => intro x hx; obtain rfl : x = 0 := by simpa using hx
            rw [Nat.zero_add, digs_zero]; simp [digs]
  | succ k ih =>
    intro x hx
    rw [show k + 1 + j = (k + j) + 1 by omega, digs, digs, ih (x / 16) (by rw [Nat.pow_succ] at hx; exact Nat.div_lt_of_lt_mul (by omega)), List.append_assoc]
/-- The digits from behind, one more ahead. -/
theorem digs_front (n x : Nat) : digs (n + 1) x = hexD (x / 16 ^ n % 16) :: digs n x := by
  induction n generalizing x with
  | zero => simp [digs]
  | succ n ih => rw [digs, ih, digs, Nat.div_div_eq_div_mul, Nat.pow_succ, Nat.mul_comm 16]; rfl
def hexN (x : Nat) : List UInt8 := digs 8 x
end Go.Proofs.YtmknbakfjhjfmaaGreatDoor.sum

/-! What follows: one byte that is another one; bytes 0; counts; digits that are read. Plain lists and numbers. -/
namespace Go.Proofs.YtmknbakfjhjfmaaGreatDoor.sum

theorem w1_differ (p r : List UInt8) (c n : UInt8) : (w1 (p ++ n :: r) : Int) = w1 (p ++ c :: r) + ((n.toNat : Int) - c.toNat) := by
  rw [w1_append, w1_append, w1, w1]; omega
theorem w2_differ (p r : List UInt8) (c n : UInt8) : (w2 (p ++ n :: r) : Int) = w2 (p ++ c :: r) + ((n.toNat : Int) - c.toNat) * (r.length + 1) := by
  rw [w2_append, w2_append, w2, w2, List.length_cons, List.length_cons]
  have e (x : Nat) : (((r.length + 1) * x : Nat) : Int) = (x : Int) * (r.length + 1) := by rw [Int.natCast_mul, Int.mul_comm]; rfl
  have e1 := e n.toNat
  have e2 := e c.toNat
  have e3 := Int.sub_mul (n.toNat : Int) (c.toNat : Int) (r.length + 1)
  omega

/-- The number that the law puts together: d more, and d times k more. -/
theorem differ_num (a b a' b' : Nat) (d e : Int) (h1 : (a' : Int) = a + d) (h2 : (b' : Int) = b + e) :
    ((num a' b' : Nat) : Int) = ((num a b / 65536 : Nat) + e.tmod 65535 + 65535) % 65535 * 65536 + ((num a b % 65536 : Nat) + d + 65535) % 65535 := by
  have t1 : e.tmod 65535 = e % 65535 ∨ e.tmod 65535 = e % 65535 - 65535 := by
    rcases Int.lt_or_le e 0 with h | h
    · have := Int.tmod_eq_emod (a := e) (b := 65535); split at this <;> omega
    · exact .inl (Int.tmod_eq_emod_of_nonneg h)
  unfold num
  rcases t1 with t1 | t1 <;> rw [t1] <;> omega
theorem differ_same (a b a' b' : Nat) (d : Int) (h1 : (a' : Int) = a + d) (hd : -255 ≤ d) (hd2 : d ≤ 255) (hb : d = 0 → b' = b) : num a' b' = num a b ↔ d = 0 := by
  constructor
  · intro h; unfold num at h; omega
  · intro h; have := hb h; unfold num; omega

/-- Join at any int. -/
def joinI (x y : Nat) (n : Int) : Nat := joinN x y (n % 65535).toNat
theorem joinI_lt (x y : Nat) (n : Int) : joinI x y n < 4294967296 := num_lt _ _
theorem joinI_nat (x y n : Nat) : joinI x y n = joinN x y n := by
  unfold joinI
  have : ((n : Int) % 65535).toNat = n % 65535 := by omega
  rw [this, joinN_mod]
theorem joinI_more (x y : Nat) (n : Int) : joinI x y (n + 65535) = joinI x y n := by unfold joinI; rw [Int.add_emod_right]
theorem joinI_less (x y : Nat) (n : Int) : joinI x y (n - 65535) = joinI x y n := by unfold joinI; rw [Int.sub_emod_right]
theorem joinI_zero (x y : Nat) : joinI x y 0 = num (lo x + lo y) (hi x + hi y) := by unfold joinI joinN; simp
theorem joinI_comm (x y : Nat) : joinI x y 0 = joinI y x 0 := by rw [joinI_zero, joinI_zero, Nat.add_comm, Nat.add_comm (hi x)]
theorem joinI_own (x y : Nat) (n : Int) : joinI (joinI x y n) 0 0 = joinI x y n := by
  rw [joinI_zero]
  unfold joinI joinN
  rw [lo_num, hi_num]
  have h1 : lo 0 = 0 := rfl
  have h2 : hi 0 = 0 := rfl
  rw [h1, h2, Nat.add_zero, Nat.add_zero, num_mod]
theorem num_low (a b : Nat) : num a b % 65536 < 65535 := by unfold num; omega
theorem num_high (a b : Nat) : num a b / 65536 < 65535 := by unfold num; omega

theorem sumN_front (n : Nat) (l : List UInt8) : sumN (List.replicate n 0 ++ l) = sumN l := by
  unfold sumN; rw [w1_append, w2_append, w1_zeros, w2_zeros]; simp
theorem sumN_back (n : Nat) (l : List UInt8) : sumN (l ++ List.replicate n 0) = joinI (sumN l) 0 n := by
  rw [joinI_nat, ← joinN_sum]
  have : sumN (List.replicate n 0) = 0 := by unfold sumN; rw [w1_zeros, w2_zeros]; rfl
  rw [this, List.length_replicate]
theorem sumN_zeros (n : Nat) : sumN (List.replicate n 0) = 0 := by unfold sumN; rw [w1_zeros, w2_zeros]; rfl

/-- What a digit says. -/
theorem hexD_lt {d : Nat} (h : d < 10) : (hexD d).toNat = 48 + d := by
  unfold hexD; rw [if_pos h]; exact UInt8.toNat_ofNat_of_lt' (by show _ < 256; omega)
theorem hexD_ge {d : Nat} (h : 10 ≤ d) (h2 : d < 16) : (hexD d).toNat = 87 + d := by
  unfold hexD; rw [if_neg (by omega)]; exact UInt8.toNat_ofNat_of_lt' (by show _ < 256; omega)
end Go.Proofs.YtmknbakfjhjfmaaGreatDoor.sum
