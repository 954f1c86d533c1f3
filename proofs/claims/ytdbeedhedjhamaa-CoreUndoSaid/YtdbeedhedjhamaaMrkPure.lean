/- Marks: where a line is behind a splice, as numbers. -/
import Derived.Test.YtdbeedhedjhamaaPceMuch
namespace Go.Proofs.Ytdbeedhedjhamaa.mrk
set_option linter.unusedVariables false

/-- Where the line n is behind a splice that stands behind a lines, takes d away, and lays k: 0: it is none, or gone (or no int tells it). -/
def ln (n a d : Int) (k : Nat) : Int := if n < 1 ∨ a < 0 ∨ d < 0 then 0 else if n ≤ a then n else if n - a ≤ d then 0 else if 9223372036854775807 < n - d + k then 0 else n - d + k
section
variable {n a d : Int} {k : Nat}
theorem ln_none (h : n < 1 ∨ a < 0 ∨ d < 0) : ln n a d k = 0 := by unfold ln; rw [if_pos h]
theorem ln_same (h1 : 1 ≤ n) (h2 : 0 ≤ a) (h3 : 0 ≤ d) (h4 : n ≤ a) : ln n a d k = n := by unfold ln; rw [if_neg (by omega), if_pos h4]
theorem ln_gone (h1 : 1 ≤ n) (h2 : 0 ≤ a) (h3 : 0 ≤ d) (h4 : a < n) (h5 : n - a ≤ d) : ln n a d k = 0 := by unfold ln; rw [if_neg (by omega), if_neg (by omega), if_pos h5]
theorem ln_great (h1 : 1 ≤ n) (h2 : 0 ≤ a) (h3 : 0 ≤ d) (h4 : a < n) (h5 : d < n - a) (h6 : 9223372036854775807 < n - d + k) : ln n a d k = 0 := by unfold ln; rw [if_neg (by omega), if_neg (by omega), if_neg (by omega), if_pos h6]
theorem ln_behind (h1 : 1 ≤ n) (h2 : 0 ≤ a) (h3 : 0 ≤ d) (h4 : a < n) (h5 : d < n - a) (h6 : n - d + k ≤ 9223372036854775807) : ln n a d k = n - d + k := by unfold ln; rw [if_neg (by omega), if_neg (by omega), if_neg (by omega), if_neg (by omega)]
theorem ln_lo : 0 ≤ ln n a d k := by
  unfold ln
  split
  · exact Int.le_refl _
  split
  · omega
  split
  · exact Int.le_refl _
  split
  · exact Int.le_refl _
  · omega
theorem ln_hi (h : n ≤ 9223372036854775807) : ln n a d k ≤ 9223372036854775807 := by
  unfold ln
  split
  · omega
  split
  · omega
  split
  · omega
  split
  · omega
  · omega
/-- What takes the splice back leads the line back. -/
theorem ln_back (hm : n ≤ 9223372036854775807) (h : 0 < ln n a d k) (q : Nat) (hq : (q : Int) = d) : ln (ln n a d k) a k q = n := by
  by_cases h0 : n < 1 ∨ a < 0 ∨ d < 0
  · rw [ln_none h0] at h; omega
  by_cases h1 : n ≤ a
  · rw [ln_same (by omega) (by omega) (by omega) h1]
    exact ln_same (by omega) (by omega) (by omega) h1
  by_cases h2 : n - a ≤ d
  · rw [ln_gone (by omega) (by omega) (by omega) (by omega) h2] at h; omega
  by_cases h3 : 9223372036854775807 < n - d + k
  · rw [ln_great (by omega) (by omega) (by omega) (by omega) (by omega) h3] at h; omega
  have e : ln n a d k = n - d + k := ln_behind (by omega) (by omega) (by omega) (by omega) (by omega) (by omega)
  rw [e]
  have e2 : ln (n - d + k) a k q = n - d + k - k + q := ln_behind (by omega) (by omega) (by omega) (by omega) (by omega) (by omega)
  rw [e2]
  omega
end
/-- Marks behind a splice. -/
def shf (f : Nat → Int) (a d : Int) (k : Nat) : Nat → Int := fun i => ln (f i) a d k
/-- May they be those of a buffer of n lines? -/
def may (f : Nat → Int) (n : Int) : Bool := (List.range 26).all fun i => decide (0 ≤ f i ∧ f i ≤ n)
end Go.Proofs.Ytdbeedhedjhamaa.mrk
