/- Bracket expressions in plain mathematics: letters and digits say just themselves; a class beside them. -/
import Derived.Test.YtmemdmjfccepgaaClsExt
namespace Go.Proofs.Ytmemdmjfccepgaa.cls
set_option linter.unusedVariables false
set_option linter.unusedSimpArgs false

def isAl (x : UInt8) : Prop := (48 ≤ x.toNat ∧ x.toNat ≤ 57) ∨ (65 ≤ x.toNat ∧ x.toNat ≤ 90) ∨ (97 ≤ x.toNat ∧ x.toNat ≤ 122)
theorem isAl.ne {x : UInt8} (h : isAl x) (d : UInt8) (hd : d.toNat = 91 ∨ d.toNat = 93 ∨ d.toNat = 45 ∨ d.toNat = 94 ∨ d.toNat = 58) : x ≠ d := fun e => by
  subst e
  unfold isAl at h
  omega
def memF (ls : List UInt8) : Nat → Bool := fun c => ls.any fun x => decide (c = x.toNat)
theorem memF_snoc (ls : List UInt8) (x : UInt8) : memF (ls ++ [x]) = or2 (memF ls) (one x.toNat) := by
  funext c
  simp [memF, or2, one]
theorem memF_cons (x : UInt8) (ls : List UInt8) (f : Nat → Bool) : or2 (or2 f (one x.toNat)) (memF ls) = or2 f (memF (x :: ls)) := by
  funext c
  simp [memF, or2, one, Bool.or_assoc]
theorem or2_mem_nil (f : Nat → Bool) : or2 f (memF []) = f := by funext c; simp [memF, or2]
theorem partN_let (x : UInt8) (t : List UInt8) (hx : isAl x) (ht : t.head? ≠ some 45) : partN (x :: t) = some (one x.toNat, t) := by
  have h91 : x ≠ 91 := hx.ne 91 (.inl rfl)
  unfold partN
  rw [if_neg (by simp)]
  have k : ∀ d, hp2 (x :: t) d = false := fun d => by rw [hp2_cons]; simp [h91]
  rw [if_neg (by rw [k]; decide), if_neg (by unfold opens; rw [k, k, k]; decide)]
  have k3 : isRng (x :: t) = false := by
    cases hr : isRng (x :: t) with
    | false => rfl
    | true =>
      rw [isRng_iff] at hr
      exact absurd hr.1 ht
  rw [if_neg (by rw [k3]; decide)]
  rfl
theorem head_al (ls t : List UInt8) (h : ∀ x ∈ ls, isAl x) (ht : t.head? ≠ some 45) : (ls ++ t).head? ≠ some 45 := by
  cases ls with
  | nil => exact ht
  | cons x ls =>
    simp only [List.cons_append, List.head?_cons, ne_eq, Option.some.injEq]
    exact (h x (by simp)).ne 45 (.inr (.inr (.inl rfl)))
theorem parts_let : ∀ (ls t : List UInt8) (n : Nat) (b : Bool) (f : Nat → Bool), (∀ x ∈ ls, isAl x) → t.head? ≠ some 45 →
    partsN (n + ls.length) b f (ls ++ t) = partsN n (b && ls.isEmpty) (or2 f (memF ls)) t
  | [], t, n, b, f, _, _ => by rw [or2_mem_nil]; simp
  | x :: ls, t, n, b, f, h, ht => by
    have hx := h x (by simp)
    have ih := parts_let ls t n false (or2 f (one x.toNat)) (fun y hy => h y (by simp [hy])) ht
    have hs : partsN (n + ls.length + 1) b f (x :: (ls ++ t)) = partsN (n + ls.length) false (or2 f (one x.toNat)) (ls ++ t) :=
      partsN_step _ b f _ (one x.toNat, ls ++ t) (fun hc => by
        have := hc.2
        simp only [List.head?_cons, Option.some.injEq] at this
        exact hx.ne 93 (.inr (.inl rfl)) this) (partN_let x (ls ++ t) hx (head_al ls t (fun y hy => h y (by simp [hy])) ht))
    show partsN (n + (ls.length + 1)) b f (x :: (ls ++ t)) = _
    rw [← Nat.add_assoc, hs, ih, memF_cons]
    simp
theorem allN_fuel (f : Nat → Bool) (l : List UInt8) (n : Nat) (h : l.length < n) : allN f l = partsN n true f l := partsN_fuel _ _ _ _ _ (by omega) h
/-- Letters and digits alone. -/
theorem parse_let (ls : List UInt8) (h : ∀ x ∈ ls, isAl x) (hne : ls ≠ []) : parseL (91 :: (ls ++ [93])) = some (memF ls, []) := by
  unfold parseL
  rw [if_pos (by simp), if_neg]
  · show allN noB (ls ++ [93]) = _
    rw [allN_fuel _ _ (2 + ls.length) (by simp; omega), parts_let ls [93] 2 true noB h (by decide)]
    have e : (true && ls.isEmpty) = false := by cases ls with
      | nil => exact absurd rfl hne
      | cons x ls => rfl
    rw [e, or2_noB, partsN_end 1 _ _ rfl]
    rfl
  · cases ls with
    | nil => exact absurd rfl hne
    | cons x ls =>
      simp only [List.cons_append, List.drop_succ_cons, List.drop_zero, List.head?_cons, Option.some.injEq]
      exact (h x (by simp)).ne 94 (.inr (.inr (.inr (.inl rfl))))
/-- From one byte up to another. -/
theorem parse_rng (x y : UInt8) (hx : isAl x) (hy : isAl y) : parseL [91, x, 45, y, 93] = if y.toNat < x.toNat then none else some (btw x.toNat y.toNat, []) := by
  have h91 : x ≠ 91 := hx.ne 91 (.inl rfl)
  have hy91 : y ≠ 91 := hy.ne 91 (.inl rfl)
  have hp : partN [x, 45, y, 93] = if y.toNat < x.toNat then none else some (btw x.toNat y.toNat, [93]) := by
    unfold partN
    have k : ∀ d, hp2 [x, 45, y, 93] d = false := fun d => by rw [hp2_cons]; simp [h91]
    have k2 : opens [y, 93] = false := by unfold opens; rw [hp2_cons, hp2_cons, hp2_cons]; simp [hy91]
    have k3 : isRng [x, 45, y, 93] = true := by
      rw [isRng_iff]
      exact ⟨rfl, y, rfl, hy.ne 93 (.inr (.inl rfl))⟩
    rw [if_neg (by simp), if_neg (by rw [k]; decide), if_neg (by unfold opens; rw [k, k, k]; decide), if_pos k3]
    show (if y.toNat < x.toNat ∨ opens [y, 93] = true then none else some (btw x.toNat y.toNat, [93])) = _
    rw [k2]
    simp
  unfold parseL
  rw [if_pos (by simp), if_neg (by
    simp only [List.drop_succ_cons, List.drop_zero, List.head?_cons, Option.some.injEq]
    exact hx.ne 94 (.inr (.inr (.inr (.inl rfl)))))]
  show partsN 5 true noB [x, 45, y, 93] = _
  by_cases hc : y.toNat < x.toNat
  · rw [if_pos hc] at hp ⊢
    exact partsN_none 4 true noB _ (fun h => by cases h.1) hp
  · rw [if_neg hc] at hp ⊢
    rw [partsN_step 4 true noB _ _ (fun h => by cases h.1) hp, or2_noB, partsN_end 3 _ _ rfl]
    rfl
/-- A class in an expression, behind letters, and ahead of them. -/
theorem cut_name (nm t : List UInt8) (h : (58 : UInt8) ∉ nm) : cutE (nm ++ 58 :: 93 :: t) = some (nm, t) := by
  induction nm with
  | nil => unfold cutE; rfl
  | cons c nm ih =>
    have hc : c ≠ 58 := fun e => h (by simp [e])
    show cutE (c :: (nm ++ 58 :: 93 :: t)) = _
    unfold cutE
    rw [if_neg (fun e => hc e.1), ih (fun e => h (by simp [e]))]
    rfl
theorem partN_cls (nm t : List UInt8) (f : Nat → Bool) (h : (58 : UInt8) ∉ nm) (hf : clsOf nm = some f) : partN (91 :: 58 :: (nm ++ 58 :: 93 :: t)) = some (f, t) := by
  unfold partN
  rw [if_neg (by simp), if_pos (by unfold hp2; simp)]
  exact nameN_eq _ nm t f (cut_name nm t h) hf
theorem parse_cls1 (ls nm : List UInt8) (f : Nat → Bool) (hl : ∀ x ∈ ls, isAl x) (h : (58 : UInt8) ∉ nm) (hf : clsOf nm = some f) : parseL (91 :: (ls ++ 91 :: 58 :: (nm ++ [58, 93, 93]))) = some (or2 (memF ls) f, []) := by
  have hp := partN_cls nm [93] f h hf
  unfold parseL
  rw [if_pos (by simp), if_neg]
  · show allN noB (ls ++ 91 :: 58 :: (nm ++ [58, 93, 93])) = _
    obtain ⟨k, hk⟩ : ∃ k, nm.length + 10 = k := ⟨_, rfl⟩
    rw [allN_fuel _ _ ((k + 2) + ls.length) (by simp; omega), parts_let ls _ (k + 2) true noB hl (by simp), or2_noB]
    rw [partsN_step (k + 1) _ _ _ _ (fun hc => by have := hc.2; simp at this) hp, partsN_end k _ _ rfl]
    rfl
  · cases ls with
    | nil => simp
    | cons x ls =>
      simp only [List.cons_append, List.drop_succ_cons, List.drop_zero, List.head?_cons, Option.some.injEq]
      exact (hl x (by simp)).ne 94 (.inr (.inr (.inr (.inl rfl))))
theorem parse_cls2 (ls nm : List UInt8) (f : Nat → Bool) (hl : ∀ x ∈ ls, isAl x) (h : (58 : UInt8) ∉ nm) (hf : clsOf nm = some f) : parseL (91 :: 91 :: 58 :: (nm ++ 58 :: 93 :: (ls ++ [93]))) = some (or2 f (memF ls), []) := by
  have hp := partN_cls nm (ls ++ [93]) f h hf
  unfold parseL
  rw [if_pos (by simp), if_neg (by simp)]
  show allN noB (91 :: 58 :: (nm ++ 58 :: 93 :: (ls ++ [93]))) = _
  obtain ⟨k, hk⟩ : ∃ k, nm.length + 10 = k := ⟨_, rfl⟩
  rw [allN_fuel _ _ ((k + 1) + ls.length + 1) (by simp; omega), partsN_step _ _ _ _ _ (fun hc => by cases hc.1) hp, or2_noB]
  rw [parts_let ls [93] (k + 1) false f hl (by decide)]
  show partsN (k + 1) (false && ls.isEmpty) (or2 f (memF ls)) [93] = _
  rw [Bool.false_and, partsN_end k _ _ rfl]
  rfl
end Go.Proofs.Ytmemdmjfccepgaa.cls
