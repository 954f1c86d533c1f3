/- Bracket expressions in plain mathematics: sets of bytes, the classes, parts, what is read. Nothing of the program is used. -/
namespace Go.Proofs.Ytmemdmjfccepgaa.cls
set_option linter.unusedVariables false
set_option linter.unusedSimpArgs false

/-! ## Sets -/
def btw (a b : Nat) : Nat → Bool := fun c => decide (a ≤ c) && decide (c ≤ b)
def or2 (f g : Nat → Bool) : Nat → Bool := fun c => f c || g c
def not1 (f : Nat → Bool) : Nat → Bool := fun c => !f c
def noB : Nat → Bool := fun _ => false
def one (a : Nat) : Nat → Bool := fun c => decide (c = a)
def fLower := btw 97 122
def fUpper := btw 65 90
def fDigit := btw 48 57
def fAlpha := or2 fLower fUpper
def fAlnum := or2 fAlpha fDigit
def fXdigit := or2 fDigit (or2 (btw 97 102) (btw 65 70))
def fSpace := or2 (btw 9 13) (btw 32 32)
def fBlank := or2 (btw 9 9) (btw 32 32)
def fCntrl := or2 (btw 0 31) (btw 127 127)
def fGraph := btw 33 126
def fPrint := btw 32 126
def fPunct : Nat → Bool := fun c => fGraph c && !fAlnum c
abbrev nLower : List UInt8 := [108, 111, 119, 101, 114]
abbrev nUpper : List UInt8 := [117, 112, 112, 101, 114]
abbrev nAlpha : List UInt8 := [97, 108, 112, 104, 97]
abbrev nDigit : List UInt8 := [100, 105, 103, 105, 116]
abbrev nAlnum : List UInt8 := [97, 108, 110, 117, 109]
abbrev nXdigit : List UInt8 := [120, 100, 105, 103, 105, 116]
abbrev nSpace : List UInt8 := [115, 112, 97, 99, 101]
abbrev nBlank : List UInt8 := [98, 108, 97, 110, 107]
abbrev nCntrl : List UInt8 := [99, 110, 116, 114, 108]
abbrev nGraph : List UInt8 := [103, 114, 97, 112, 104]
abbrev nPrint : List UInt8 := [112, 114, 105, 110, 116]
abbrev nPunct : List UInt8 := [112, 117, 110, 99, 116]
/-- The classes by their names. -/
def clsT : List (List UInt8 × (Nat → Bool)) := [(nLower, fLower), (nUpper, fUpper), (nAlpha, fAlpha), (nDigit, fDigit), (nAlnum, fAlnum), (nXdigit, fXdigit), (nSpace, fSpace), (nBlank, fBlank), (nCntrl, fCntrl), (nGraph, fGraph), (nPrint, fPrint), (nPunct, fPunct)]
def clsOf (l : List UInt8) : Option (Nat → Bool) := clsT.lookup l
/-- A name is one of these, or none. -/
theorem clsOf_cases (l : List UInt8) : (∃ k f, (k, f) ∈ clsT ∧ l = k ∧ clsOf l = some f) ∨ (clsOf l = none ∧ ∀ p ∈ clsT, l ≠ p.1) := by
  unfold clsOf
  generalize clsT = T
  induction T with
  | nil => right; exact ⟨rfl, fun p hp => by cases hp⟩
  | cons p T ih =>
    obtain ⟨k, f⟩ := p
    by_cases h : l = k
    · left; exact ⟨k, f, by simp, h, by simp [List.lookup, h]⟩
    · have e : (l == k) = false := by simpa using h
      rcases ih with ⟨k', f', hm, hl, hf⟩ | ⟨hn, hall⟩
      · left; exact ⟨k', f', by simp [hm], hl, by simp [List.lookup, e, hf]⟩
      · right
        refine ⟨by simp [List.lookup, e, hn], fun p hp => ?_⟩
        rcases List.mem_cons.1 hp with rfl | hp
        · exact h
        · exact hall p hp

/-! ## Parts -/
/-- What stands ahead of the first :] and what behind it. -/
def cutE : List UInt8 → Option (List UInt8 × List UInt8)
  | [] => none
  | c :: r => if c = 58 ∧ r.head? = some 93 then some ([], r.drop 1) else (cutE r).map fun x => (c :: x.1, x.2)
def hp2 (l : List UInt8) (d : UInt8) : Bool := decide (l.head? = some 91 ∧ (l.drop 1).head? = some d)
def opens (l : List UInt8) : Bool := hp2 l 58 || hp2 l 46 || hp2 l 61
def isRng (l : List UInt8) : Bool := decide (3 ≤ l.length) && decide (l.getD 1 0 = 45) && decide (l.getD 2 0 ≠ 93)
def nameN (l : List UInt8) : Option ((Nat → Bool) × List UInt8) :=
  match cutE l with
  | none => none
  | some x => match clsOf x.1 with
    | none => none
    | some f => some (f, x.2)
def partN (l : List UInt8) : Option ((Nat → Bool) × List UInt8) :=
  if l = [] then none
  else if hp2 l 58 = true then nameN (l.drop 2)
  else if opens l = true then none
  else if isRng l = true then
    if (l.getD 2 0).toNat < (l.getD 0 0).toNat ∨ opens (l.drop 2) = true then none else some (btw (l.getD 0 0).toNat (l.getD 2 0).toNat, l.drop 3)
  else some (one (l.getD 0 0).toNat, l.drop 1)
/-- The parts, up to the ] that ends them. -/
def partsN : Nat → Bool → (Nat → Bool) → List UInt8 → Option ((Nat → Bool) × List UInt8)
  | 0, _, _, _ => none
  | n + 1, first, f, l =>
    if first = false ∧ l.head? = some 93 then some (f, l.drop 1) else
    match partN l with
    | none => none
    | some x => partsN n false (or2 f x.1) x.2
def allN (f : Nat → Bool) (l : List UInt8) : Option ((Nat → Bool) × List UInt8) := partsN (l.length + 1) true f l
def parseL (l : List UInt8) : Option ((Nat → Bool) × List UInt8) :=
  if l.head? = some 91 then
    if (l.drop 1).head? = some 94 then (allN noB (l.drop 2)).map fun x => (not1 x.1, x.2) else allN noB (l.drop 1)
  else none
def parseAt (l : List UInt8) (a : Int) : Option ((Nat → Bool) × List UInt8) := if 0 ≤ a ∧ a ≤ l.length then parseL (l.drop a.toNat) else none

theorem cutE_some : ∀ (l : List UInt8) (x : List UInt8 × List UInt8), cutE l = some x → l = x.1 ++ 58 :: 93 :: x.2
  | [], x, h => by simp [cutE] at h
  | c :: r, x, h => by
    unfold cutE at h
    split at h
    · rename_i hc
      obtain ⟨rfl, hr⟩ := hc
      simp only [Option.some.injEq] at h
      subst h
      cases r with
      | nil => simp at hr
      | cons d r => simp at hr; subst hr; simp
    · obtain ⟨y, hy, rfl⟩ := Option.map_eq_some_iff.1 h
      have := cutE_some r y hy
      simp [← this]
theorem cutE_len (l : List UInt8) (x) (h : cutE l = some x) : x.2.length + 2 ≤ l.length := by
  rw [cutE_some l x h]; simp
theorem nameN_some (l : List UInt8) (x) (h : nameN l = some x) : ∃ n, cutE l = some (n, x.2) ∧ clsOf n = some x.1 := by
  unfold nameN at h
  split at h
  · cases h
  · rename_i y hy
    split at h
    · cases h
    · rename_i f hf
      simp only [Option.some.injEq] at h
      subst h
      exact ⟨y.1, hy, hf⟩
theorem nameN_eq (l : List UInt8) (n r : List UInt8) (f : Nat → Bool) (h1 : cutE l = some (n, r)) (h2 : clsOf n = some f) : nameN l = some (f, r) := by
  unfold nameN
  rw [h1]
  simp only
  rw [h2]
theorem nameN_none1 (l : List UInt8) (h1 : cutE l = none) : nameN l = none := by unfold nameN; rw [h1]
theorem nameN_none2 (l : List UInt8) (x) (h1 : cutE l = some x) (h2 : clsOf x.1 = none) : nameN l = none := by
  unfold nameN
  rw [h1]
  simp only
  rw [h2]
theorem partN_len (l : List UInt8) (x) (h : partN l = some x) : x.2.length < l.length := by
  unfold partN at h
  split at h
  · cases h
  · rename_i h0
    have hl : 0 < l.length := List.length_pos_iff.2 h0
    split at h
    · obtain ⟨n, hn, _⟩ := nameN_some _ _ h
      have := cutE_len _ _ hn
      rw [List.length_drop] at this
      simp only at this
      omega
    · split at h
      · cases h
      · split at h
        · rename_i hr
          split at h
          · cases h
          · simp only [Option.some.injEq] at h
            subst h
            simp [isRng] at hr
            show (l.drop 3).length < _
            rw [List.length_drop]; omega
        · simp only [Option.some.injEq] at h
          subst h
          show (l.drop 1).length < _
          rw [List.length_drop]; omega
theorem partsN_fuel : ∀ (n m : Nat) (b : Bool) (f : Nat → Bool) (l : List UInt8), l.length < n → l.length < m → partsN n b f l = partsN m b f l
  | 0, _, _, _, l, h, _ => by omega
  | n + 1, 0, _, _, l, _, h => by omega
  | n + 1, m + 1, b, f, l, hn, hm => by
    unfold partsN
    split
    · rfl
    · cases hp : partN l with
      | none => rfl
      | some x =>
        have := partN_len l x hp
        exact partsN_fuel n m false _ _ (by omega) (by omega)
/-- One part more. -/
theorem partsN_step (n : Nat) (b : Bool) (f : Nat → Bool) (l : List UInt8) (x) (h : ¬ (b = false ∧ l.head? = some 93)) (hp : partN l = some x) : partsN (n + 1) b f l = partsN n false (or2 f x.1) x.2 := by
  conv => lhs; unfold partsN
  rw [if_neg h, hp]
theorem partsN_none (n : Nat) (b : Bool) (f : Nat → Bool) (l : List UInt8) (h : ¬ (b = false ∧ l.head? = some 93)) (hp : partN l = none) : partsN (n + 1) b f l = none := by
  conv => lhs; unfold partsN
  rw [if_neg h, hp]
theorem partsN_end (n : Nat) (f : Nat → Bool) (l : List UInt8) (h : l.head? = some 93) : partsN (n + 1) false f l = some (f, l.drop 1) := by
  conv => lhs; unfold partsN
  rw [if_pos ⟨rfl, h⟩]
theorem partN_nil : partN [] = none := rfl

theorem not1_not1 (f : Nat → Bool) : not1 (not1 f) = f := by funext c; simp [not1]
theorem or2_noB (f : Nat → Bool) : or2 noB f = f := by funext c; simp [or2, noB]
end Go.Proofs.Ytmemdmjfccepgaa.cls
