/- Bracket expressions in plain mathematics: what stands behind one makes no difference. -/
import Derived.Test.YtmemdmjfccepgaaClsPure
namespace Go.Proofs.Ytmemdmjfccepgaa.cls
set_option linter.unusedVariables false
set_option linter.unusedSimpArgs false

theorem cutE_ext : ∀ (l n t : List UInt8), cutE l = some (n, t) → l = n ++ 58 :: 93 :: t ∧ ∀ t', cutE (n ++ 58 :: 93 :: t') = some (n, t')
  | [], n, t, h => by simp [cutE] at h
  | c :: r, n, t, h => by
    unfold cutE at h
    split at h
    · rename_i hc
      simp only [Option.some.injEq, Prod.mk.injEq] at h
      obtain ⟨rfl, rfl⟩ := h
      obtain ⟨rfl, hr⟩ := hc
      cases r with
      | nil => simp at hr
      | cons d r =>
        simp only [List.head?_cons, Option.some.injEq] at hr
        subst hr
        refine ⟨by simp, fun t' => ?_⟩
        show cutE (58 :: 93 :: t') = _
        unfold cutE
        rw [if_pos (by simp)]
        rfl
    · rename_i hc
      obtain ⟨y, hy, he⟩ := Option.map_eq_some_iff.1 h
      obtain ⟨yn, yt⟩ := y
      simp only [Prod.mk.injEq] at he
      obtain ⟨rfl, rfl⟩ := he
      obtain ⟨e1, e2⟩ := cutE_ext r yn yt hy
      refine ⟨by rw [e1]; simp, fun t' => ?_⟩
      have hh : (yn ++ 58 :: 93 :: t').head? = r.head? := by rw [e1]; cases yn <;> rfl
      show cutE (c :: (yn ++ 58 :: 93 :: t')) = _
      unfold cutE
      rw [if_neg (by rw [hh]; exact hc), e2 t']
      rfl
/-- What is looked at behind a part. -/
def look (t : List UInt8) : Option UInt8 × Option UInt8 := (t.head?, if t.head? = some 45 then (t.drop 1).head? else none)
theorem isRng_iff (l : List UInt8) : isRng l = true ↔ (l.drop 1).head? = some 45 ∧ ∃ y, (l.drop 2).head? = some y ∧ y ≠ 93 := by
  unfold isRng
  match l with
  | [] => simp
  | [a] => simp
  | [a, b] => simp
  | a :: b :: c :: r => simp
theorem look_rng (a : UInt8) (t t' : List UInt8) (h : look t' = look t) : isRng (a :: t') = isRng (a :: t) := by
  unfold look at h
  simp only [Prod.mk.injEq] at h
  rw [Bool.eq_iff_iff, isRng_iff, isRng_iff]
  show (t'.head? = some 45 ∧ ∃ y, (t'.drop 1).head? = some y ∧ y ≠ 93) ↔ (t.head? = some 45 ∧ ∃ y, (t.drop 1).head? = some y ∧ y ≠ 93)
  rw [h.1]
  by_cases h45 : t.head? = some 45
  · have h2 := h.2
    rw [h.1, if_pos h45, if_pos h45] at h2
    rw [h2]
  · simp [h45]
theorem hp2_cons (a : UInt8) (t : List UInt8) (d : UInt8) : hp2 (a :: t) d = decide (a = 91 ∧ t.head? = some d) := by unfold hp2; simp
theorem look_opens (a : UInt8) (t t' : List UInt8) (h : t'.head? = t.head?) : opens (a :: t') = opens (a :: t) := by
  unfold opens
  rw [hp2_cons, hp2_cons, hp2_cons, hp2_cons, hp2_cons, hp2_cons, h]
theorem partN_ext (l : List UInt8) (g : Nat → Bool) (t : List UInt8) (h : partN l = some (g, t)) : ∃ q, l = q ++ t ∧ q ≠ [] ∧ ∀ t', look t' = look t → partN (q ++ t') = some (g, t') := by
  unfold partN at h
  split at h
  · cases h
  · rename_i h0
    split at h
    · rename_i h58
      obtain ⟨n, hn, hf⟩ := nameN_some _ _ h
      simp only at hn hf
      obtain ⟨e1, e2⟩ := cutE_ext _ _ _ hn
      have hl : l = 91 :: 58 :: l.drop 2 := by
        unfold hp2 at h58
        match l, h58 with
        | [], h58 => simp at h58
        | [a], h58 => simp at h58
        | a :: b :: r, h58 =>
          simp only [List.head?_cons, List.drop_succ_cons, List.drop_zero, Option.some.injEq, decide_eq_true_eq] at h58
          rw [h58.1, h58.2]
          rfl
      refine ⟨91 :: 58 :: (n ++ [58, 93]), by rw [hl, e1]; simp, by simp, fun t' _ => ?_⟩
      have e3 : (91 :: 58 :: (n ++ [58, 93])) ++ t' = 91 :: 58 :: (n ++ 58 :: 93 :: t') := by simp
      rw [e3]
      unfold partN
      rw [if_neg (by simp), if_pos (by unfold hp2; simp)]
      exact nameN_eq _ n t' g (e2 t') hf
    · rename_i h58
      split at h
      · cases h
      · rename_i hop
        split at h
        · rename_i hrg
          split at h
          · cases h
          · rename_i hbad
            simp only [Option.some.injEq, Prod.mk.injEq] at h
            obtain ⟨rfl, rfl⟩ := h
            match l, h0, h58, hop, hrg, hbad with
            | [], h0, _, _, _, _ => exact absurd rfl h0
            | [a], _, _, _, hrg, _ => simp [isRng] at hrg
            | [a, b], _, _, _, hrg, _ => simp [isRng] at hrg
            | a :: b :: c :: r, h0, h58, hop, hrg, hbad =>
              refine ⟨[a, b, c], by simp, by simp, fun t' ht => ?_⟩
              have hhd : t'.head? = r.head? := by
                unfold look at ht
                simp only [Prod.mk.injEq] at ht
                exact ht.1
              show partN (a :: b :: c :: t') = _
              unfold partN
              have k1 : hp2 (a :: b :: c :: t') 58 = hp2 (a :: b :: c :: r) 58 := by rw [hp2_cons, hp2_cons]; rfl
              have k2 : opens (a :: b :: c :: t') = opens (a :: b :: c :: r) := look_opens a _ _ rfl
              have k3 : isRng (a :: b :: c :: t') = true := by
                rw [isRng_iff] at hrg ⊢
                exact hrg
              have k4 : opens (List.drop 2 (a :: b :: c :: t')) = opens (List.drop 2 (a :: b :: c :: r)) := look_opens c _ _ hhd
              rw [if_neg (by simp), k1, if_neg h58, k2, if_neg hop, if_pos k3, k4]
              exact if_neg hbad
        · rename_i hrg
          simp only [Option.some.injEq, Prod.mk.injEq] at h
          obtain ⟨rfl, rfl⟩ := h
          match l, h0, h58, hop, hrg with
          | [], h0, _, _, _ => exact absurd rfl h0
          | a :: r, h0, h58, hop, hrg =>
            refine ⟨[a], by simp, by simp, fun t' ht => ?_⟩
            have ht' : look t' = look r := ht
            have hhd : t'.head? = r.head? := by
              unfold look at ht'
              simp only [Prod.mk.injEq] at ht'
              exact ht'.1
            show partN (a :: t') = _
            unfold partN
            have k1 : hp2 (a :: t') 58 = hp2 (a :: r) 58 := by rw [hp2_cons, hp2_cons, hhd]
            have k2 : opens (a :: t') = opens (a :: r) := look_opens a _ _ hhd
            have k3 : isRng (a :: t') = isRng (a :: r) := look_rng a r t' ht'
            rw [if_neg (by simp), k1, if_neg h58, k2, if_neg hop, k3, if_neg hrg]
            rfl
theorem look_end (p r r' : List UInt8) : look (p ++ 93 :: r') = look (p ++ 93 :: r) := by
  match p with
  | [] => rfl
  | [x] => rfl
  | x :: y :: p => rfl
theorem partsN_ext : ∀ (n : Nat) (b : Bool) (f : Nat → Bool) (l : List UInt8) (h : Nat → Bool) (r : List UInt8), partsN n b f l = some (h, r) →
    ∃ p, l = p ++ 93 :: r ∧ (b = true → p ≠ []) ∧ ∀ r', partsN n b f (p ++ 93 :: r') = some (h, r')
  | 0, _, _, _, _, _, e => by cases e
  | n + 1, b, f, l, h, r, e => by
    by_cases hc : b = false ∧ l.head? = some 93
    · obtain ⟨rfl, hhd⟩ := hc
      rw [partsN_end n f l hhd] at e
      simp only [Option.some.injEq, Prod.mk.injEq] at e
      obtain ⟨rfl, rfl⟩ := e
      refine ⟨[], ?_, (fun h => (by cases h)), fun r' => ?_⟩
      · cases l with
        | nil => cases hhd
        | cons a l =>
          simp only [List.head?_cons, Option.some.injEq] at hhd
          subst hhd
          simp
      · rw [List.nil_append, partsN_end n f _ rfl]
        simp
    · cases hp : partN l with
      | none => rw [partsN_none n b f l hc hp] at e; cases e
      | some x =>
        obtain ⟨g, t⟩ := x
        rw [partsN_step n b f l (g, t) hc hp] at e
        obtain ⟨p1, e1, _, e3⟩ := partsN_ext n false _ t h r e
        obtain ⟨q, q1, q2, q3⟩ := partN_ext l g t hp
        refine ⟨q ++ p1, by rw [q1, e1]; simp, fun _ => by simp [q2], fun r' => ?_⟩
        have hhd : (q ++ p1 ++ 93 :: r').head? = l.head? := by
          rw [q1]
          cases q with
          | nil => exact absurd rfl q2
          | cons a q => simp
        have hpn : partN (q ++ p1 ++ 93 :: r') = some (g, p1 ++ 93 :: r') := by
          rw [List.append_assoc]
          exact q3 _ (by rw [e1]; exact look_end p1 r r')
        rw [partsN_step n b f _ (g, p1 ++ 93 :: r') (by rw [hhd]; exact hc) hpn]
        exact e3 r'
theorem partsN_mono : ∀ (n m : Nat) (b : Bool) (f : Nat → Bool) (l : List UInt8) (x), n ≤ m → partsN n b f l = some x → partsN m b f l = some x
  | 0, _, _, _, _, _, _, e => by cases e
  | n + 1, 0, _, _, _, _, h, _ => by omega
  | n + 1, m + 1, b, f, l, x, h, e => by
    by_cases hc : b = false ∧ l.head? = some 93
    · obtain ⟨rfl, hhd⟩ := hc
      rw [partsN_end n f l hhd] at e
      rw [partsN_end m f l hhd]
      exact e
    · cases hp : partN l with
      | none => rw [partsN_none n b f l hc hp] at e; cases e
      | some y =>
        rw [partsN_step n b f l y hc hp] at e
        rw [partsN_step m b f l y hc hp]
        exact partsN_mono n m false _ y.2 x (by omega) e
theorem allN_ext (f : Nat → Bool) (l : List UInt8) (h : Nat → Bool) (r : List UInt8) (e : allN f l = some (h, r)) : ∃ p, l = p ++ 93 :: r ∧ p ≠ [] ∧ ∀ r', allN f (p ++ 93 :: r') = some (h, r') := by
  obtain ⟨p, e1, e2, e3⟩ := partsN_ext _ _ _ _ _ _ e
  refine ⟨p, e1, e2 rfl, fun r' => ?_⟩
  unfold allN
  have h1 := partsN_mono _ (l.length + 1 + (p ++ 93 :: r').length) true f _ _ (by omega) (e3 r')
  rw [← h1]
  exact partsN_fuel _ _ _ _ _ (by omega) (by omega)
/-- What stands behind an expression makes no difference. -/
theorem parseL_ext (l : List UInt8) (f : Nat → Bool) (r : List UInt8) (e : parseL l = some (f, r)) : ∃ p, l = p ++ 93 :: r ∧ 2 ≤ p.length ∧ ∀ r', parseL (p ++ 93 :: r') = some (f, r') := by
  unfold parseL at e
  split at e
  · rename_i h91
    obtain ⟨u, rfl⟩ : ∃ u, l = 91 :: u := by
      cases l with
      | nil => cases h91
      | cons a u => simp only [List.head?_cons, Option.some.injEq] at h91; exact ⟨u, by rw [h91]⟩
    split at e
    · rename_i h94
      obtain ⟨v, rfl⟩ : ∃ v, u = 94 :: v := by
        cases u with
        | nil => simp at h94
        | cons a v => simp at h94; exact ⟨v, by rw [h94]⟩
      obtain ⟨x, hx, he⟩ := Option.map_eq_some_iff.1 e
      simp only [Prod.mk.injEq] at he
      obtain ⟨rfl, rfl⟩ := he
      obtain ⟨p, e1, e2, e3⟩ := allN_ext noB v x.1 x.2 hx
      refine ⟨91 :: 94 :: p, by rw [e1]; simp, by simp, fun r' => ?_⟩
      show parseL (91 :: 94 :: (p ++ 93 :: r')) = _
      unfold parseL
      rw [if_pos (by simp), if_pos (by simp)]
      show (allN noB (p ++ 93 :: r')).map _ = _
      rw [e3 r']
      rfl
    · rename_i h94
      have e' : allN noB u = some (f, r) := e
      obtain ⟨p, e1, e2, e3⟩ := allN_ext noB u f r e'
      refine ⟨91 :: p, by rw [e1]; simp, by
        cases p with
        | nil => exact absurd rfl e2
        | cons a p => simp, fun r' => ?_⟩
      show parseL (91 :: (p ++ 93 :: r')) = _
      unfold parseL
      have hh : (List.drop 1 (91 :: (p ++ 93 :: r'))).head? = (List.drop 1 (91 :: u)).head? := by
        rw [e1]
        cases p with
        | nil => exact absurd rfl e2
        | cons a p => simp
      rw [if_pos (by simp), hh, if_neg h94]
      show allN noB (p ++ 93 :: r') = _
      exact e3 r'
  · cases e
end Go.Proofs.Ytmemdmjfccepgaa.cls
