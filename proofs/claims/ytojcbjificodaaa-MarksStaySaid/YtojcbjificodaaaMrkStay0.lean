/- Marks: lines that bear letters, where they stand, and where marks are; no memory. -/
import Derived.Test.YtojcbjificodaaaMrkAll
import Derived.Test.YtojcbjificodaaaSplStep
namespace Go.Proofs.Ytojcbjificodaaa.mrk
open Go.RowKit Go.Lib pce sps
set_option linter.unusedVariables false

abbrev dash : ByteArray := ⟨#[45]⟩
/-- A letter as a line. -/
def ltr (k : Nat) : ByteArray := ⟨#[UInt8.ofNat (97 + k)]⟩
theorem ltr_inj {j k : Nat} (hj : j < 26) (hk : k < 26) (h : ltr j = ltr k) : j = k := by
  unfold ltr at h
  injection h with h
  injection h with h
  injection h with h _
  have := congrArg UInt8.toNat h
  simp at this
  omega
theorem ltr_dash {k : Nat} (hk : k < 26) : ¬ dash = ltr k := fun h => by
  unfold ltr dash at h
  injection h with h
  injection h with h
  injection h with h _
  have := congrArg UInt8.toNat h
  simp at this
  omega
/-- Each mark is where its letter's line stands; 0: nowhere. -/
def Holds (L : List ByteArray) (f : Nat → Int) : Prop := ∀ k, k < 26 → ∃ p : Nat, f k = (p : Int) ∧ p ≤ L.length ∧ ∀ j, L[j]? = some (ltr k) ↔ j + 1 = p
theorem le_of_at {L : List ByteArray} {k p : Nat} (h : ∀ j, L[j]? = some (ltr k) ↔ j + 1 = p) : p ≤ L.length := by
  rcases Nat.eq_zero_or_pos p with h0 | h0
  · omega
  · have := (h (p - 1)).2 (by omega)
    have := (List.getElem?_eq_some_iff.1 this).1
    omega
theorem first_holds (n : Nat) (hn : n ≤ 26) : Holds ((List.range n).map ltr) (fun i => if i < n then (i : Int) + 1 else 0) := fun k hk => by
  have key : ∀ j, ((List.range n).map ltr)[j]? = some (ltr k) ↔ j + 1 = (if k < n then k + 1 else 0) := fun j => by
    rw [List.getElem?_map]
    by_cases hj : j < n
    · rw [List.getElem?_range hj]
      simp only [Option.map_some, Option.some.injEq]
      constructor
      · intro h
        have := ltr_inj (by omega) hk h
        subst this
        rw [if_pos hj]
      · intro h
        split at h
        · obtain rfl : j = k := by omega
          rfl
        · omega
    · rw [List.getElem?_eq_none (by simp; omega)]
      simp
      split <;> omega
  refine ⟨if k < n then k + 1 else 0, ?_, le_of_at key, key⟩
  show (if k < n then (k : Int) + 1 else 0) = _
  split <;> simp
theorem spl_at (L : List ByteArray) (a d q : Nat) (had : a + d ≤ L.length) {k : Nat} (hk : k < 26) (j : Nat) :
    (pce.spl L a d (List.replicate q dash))[j]? = some (ltr k) ↔ (j < a ∧ L[j]? = some (ltr k)) ∨ (a + q ≤ j ∧ L[j - (a + q) + (a + d)]? = some (ltr k)) := by
  unfold pce.spl
  have h1 : (L.take a).length = a := by rw [List.length_take]; omega
  by_cases c1 : j < a
  · rw [List.append_assoc, List.getElem?_append_left (by omega), List.getElem?_take, if_pos c1]
    constructor
    · exact fun h => .inl ⟨c1, h⟩
    · rintro (⟨_, h⟩ | ⟨h, _⟩)
      · exact h
      · omega
  · by_cases c2 : j < a + q
    · rw [List.append_assoc, List.getElem?_append_right (by omega), h1, List.getElem?_append_left (by rw [List.length_replicate]; omega), List.getElem?_replicate, if_pos (by omega)]
      constructor
      · intro h
        exact absurd (Option.some.inj h) (ltr_dash hk)
      · rintro (⟨h, _⟩ | ⟨h, _⟩) <;> omega
    · rw [List.getElem?_append_right (by rw [List.length_append, h1, List.length_replicate]; omega), List.length_append, h1, List.length_replicate, List.getElem?_drop, Nat.add_comm (a + d)]
      constructor
      · exact fun h => .inr ⟨by omega, h⟩
      · rintro (⟨h, _⟩ | ⟨_, h⟩)
        · omega
        · exact h
theorem Holds.spl {L : List ByteArray} {f : Nat → Int} (h : Holds L f) (a d q : Nat) (had : a + d ≤ L.length) (hL : L.length ≤ 2000) (hq : q ≤ 100000) : Holds (pce.spl L a d (List.replicate q dash)) (shf f a d q) := fun k hk => by
  obtain ⟨p, hp, hpl, hj⟩ := h k hk
  have go : ∀ p' : Nat, ln (p : Int) a d q = (p' : Int) → (∀ j, (j < a ∧ j + 1 = p) ∨ (a + q ≤ j ∧ j - (a + q) + (a + d) + 1 = p) ↔ j + 1 = p') → ∃ p : Nat, shf f a d q k = (p : Int) ∧ p ≤ (pce.spl L a d (List.replicate q dash)).length ∧ ∀ j, (pce.spl L a d (List.replicate q dash))[j]? = some (ltr k) ↔ j + 1 = p := fun p' h1 h2 => by
    have key : ∀ j, (pce.spl L a d (List.replicate q dash))[j]? = some (ltr k) ↔ j + 1 = p' := fun j => by
      rw [spl_at L a d q had hk, hj, hj]; exact h2 j
    exact ⟨p', by show ln (f k) a d q = _; rw [hp]; exact h1, le_of_at key, key⟩
  by_cases c0 : p = 0
  · exact go 0 (by rw [ln_none (by omega)]; rfl) (fun j => by omega)
  by_cases c1 : p ≤ a
  · exact go p (ln_same (by omega) (by omega) (by omega) (by omega)) (fun j => by omega)
  by_cases c2 : p ≤ a + d
  · exact go 0 (by rw [ln_gone (by omega) (by omega) (by omega) (by omega) (by omega)]; rfl) (fun j => by omega)
  · exact go (p - d + q) (by rw [ln_behind (by omega) (by omega) (by omega) (by omega) (by omega) (by omega)]; omega) (fun j => by omega)
theorem Holds.may {L : List ByteArray} {f : Nat → Int} (h : Holds L f) : may f L.length = true := by
  unfold mrk.may
  rw [List.all_eq_true]
  intro k hk
  obtain ⟨p, hp, hpl, _⟩ := h k (List.mem_range.1 hk)
  rw [hp]
  exact decide_eq_true ⟨by omega, by omega⟩
theorem Holds.ints {L : List ByteArray} {f : Nat → Int} (h : Holds L f) (hL : L.length ≤ 2000) : Ints f := fun k hk => by
  obtain ⟨p, hp, hpl, _⟩ := h k hk
  rw [hp]; omega
/-- The last place found among the first j. -/
def seen (p j : Nat) : Nat := if p ≤ j then p else 0
theorem seen_zero (p : Nat) : seen p 0 = 0 := by unfold seen; split <;> omega
theorem seen_hit {p j : Nat} (h : j + 1 = p) : seen p (j + 1) = j + 1 := by unfold seen; rw [if_pos (by omega)]; omega
theorem seen_miss {p j : Nat} (h : ¬ j + 1 = p) : seen p (j + 1) = seen p j := by
  unfold seen
  by_cases h2 : p ≤ j
  · rw [if_pos h2, if_pos (by omega)]
  · rw [if_neg h2, if_neg (by omega)]
theorem seen_all {p n : Nat} (h : p ≤ n) : seen p n = p := by unfold seen; rw [if_pos h]
theorem seen_le (p j : Nat) : seen p j ≤ j := by unfold seen; split <;> omega
theorem rep_snoc (q : Nat) : (List.replicate q dash).map Value.string ++ [Value.string dash] = (List.replicate (q + 1) dash).map Value.string := by rw [List.replicate_succ']; simp
theorem ltrs_snoc (n : Nat) : ((List.range n).map ltr).map Value.string ++ [Value.string (ltr n)] = ((List.range (n + 1)).map ltr).map Value.string := by rw [List.range_succ]; simp
theorem chk_rep : ∀ q : Nat, q ≤ 2000 → Fine (List.replicate q dash) := fun q hq => ⟨by rw [List.length_replicate]; exact hq, fun z hz => by
  obtain ⟨_, rfl⟩ := List.mem_replicate.1 hz
  exact ⟨by decide, by decide⟩⟩
end Go.Proofs.Ytojcbjificodaaa.mrk
