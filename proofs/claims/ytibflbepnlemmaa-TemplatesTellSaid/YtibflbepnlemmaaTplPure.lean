/- Templates: plain facts on replacements, byte by byte and piece by piece. -/
import Derived.Lib.Hide
namespace Go.Proofs.Ytibflbepnlemmaa.tpl
set_option linter.unusedVariables false
set_option linter.unusedSimpArgs false

def digB (b : UInt8) : Bool := decide (49 ≤ b.toNat) && decide (b.toNat ≤ 57)
/-- Whether bytes are a replacement. -/
def ok : List UInt8 → Bool
  | [] => true
  | [a] => decide (a ≠ 92)
  | a :: b :: r => if a = 92 then ok r else ok (b :: r)
def dig (b : UInt8) : Nat := if digB b then b.toNat - 48 else 0
/-- Their greatest group. -/
def mo : List UInt8 → Nat
  | [] => 0
  | [_] => 0
  | a :: b :: r => if a = 92 then max (dig b) (mo r) else mo (b :: r)
def esc (S : Nat → List UInt8) (b : UInt8) : List UInt8 := if digB b then S (b.toNat - 48) else if b = 110 then [10] else [b]
/-- What they are expanded to, where the stretch of a number is S. -/
def ex (S : Nat → List UInt8) : List UInt8 → List UInt8
  | [] => []
  | [a] => if a = 38 then S 0 else [a]
  | a :: b :: r => if a = 38 then S 0 ++ ex S (b :: r) else if a = 92 then esc S b ++ ex S r else a :: ex S (b :: r)

inductive Pc where
  | txt (l : List UInt8)
  | grp (n : Nat)
def exPc (S : Nat → List UInt8) : Pc → List UInt8
  | .txt l => l
  | .grp n => S n
def moPc : Pc → Nat
  | .txt _ => 0
  | .grp n => n
def exP (S : Nat → List UInt8) (ps : List Pc) : List UInt8 := (ps.map (exPc S)).flatten
def moP (ps : List Pc) : Nat := ps.foldl (fun a p => max a (moPc p)) 0
def escP (b : UInt8) : Pc := if digB b then .grp (b.toNat - 48) else if b = 110 then .txt [10] else .txt [b]
def PcOk : Pc → Prop
  | .txt l => l.length ≤ 1000000
  | .grp n => n < 10

def spec (a : UInt8) : Bool := decide (a = 38) || decide (a = 92)
def pl : List UInt8 → Nat
  | [] => 0
  | a :: r => if spec a then 0 else pl r + 1
/-- The first piece, and what stands behind it. -/
def fst1 : List UInt8 → Option (Pc × List UInt8)
  | [] => none
  | [a] => if a = 38 then some (.grp 0, []) else if a = 92 then none else some (.txt [a], [])
  | a :: b :: r => if a = 38 then some (.grp 0, b :: r) else if a = 92 then some (escP b, r) else some (.txt ((a :: b :: r).take (pl (a :: b :: r))), (a :: b :: r).drop (pl (a :: b :: r)))

theorem ok_pl {a : UInt8} (h : a ≠ 92) : ∀ r, ok (a :: r) = ok r
  | [] => by simp [ok, h]
  | b :: r => by simp [ok, h]
theorem ok_bs (b : UInt8) (r : List UInt8) : ok (92 :: b :: r) = ok r := by simp [ok]
theorem mo_pl {a : UInt8} (h : a ≠ 92) : ∀ r, mo (a :: r) = mo r
  | [] => rfl
  | b :: r => by simp [mo, h]
theorem mo_bs (b : UInt8) (r : List UInt8) : mo (92 :: b :: r) = max (dig b) (mo r) := by simp [mo]
section
variable (S : Nat → List UInt8)
theorem ex_amp : ∀ r, ex S (38 :: r) = S 0 ++ ex S r
  | [] => by simp [ex]
  | b :: r => by simp [ex]
theorem ex_pl {a : UInt8} (h : a ≠ 38) (h2 : a ≠ 92) : ∀ r, ex S (a :: r) = a :: ex S r
  | [] => by simp [ex, h]
  | b :: r => by simp [ex, h, h2]
theorem ex_bs (b : UInt8) (r : List UInt8) : ex S (92 :: b :: r) = esc S b ++ ex S r := by simp [ex]
end
theorem spec_no {a : UInt8} (h : spec a = false) : a ≠ 38 ∧ a ≠ 92 := by
  simpa [spec] using h
theorem pl_le : ∀ l, pl l ≤ l.length
  | [] => Nat.le_refl _
  | a :: r => by
    have := pl_le r
    unfold pl
    split
    · omega
    · rw [List.length_cons]; omega
theorem pl_split : ∀ l : List UInt8, ok l = ok (l.drop (pl l)) ∧ mo l = mo (l.drop (pl l)) ∧ ∀ S, ex S l = l.take (pl l) ++ ex S (l.drop (pl l))
  | [] => ⟨rfl, rfl, fun _ => rfl⟩
  | a :: r => by
    obtain ⟨i1, i2, i3⟩ := pl_split r
    cases h : spec a with
    | true => simp [pl, h]
    | false =>
      obtain ⟨h1, h2⟩ := spec_no h
      have e : pl (a :: r) = pl r + 1 := by simp [pl, h]
      rw [e, List.drop_succ_cons, List.take_succ_cons]
      refine ⟨(ok_pl h2 r).trans i1, (mo_pl h2 r).trans i2, fun S => ?_⟩
      rw [ex_pl S h1 h2, i3 S]
      rfl
theorem esc_is (S : Nat → List UInt8) (b : UInt8) : exPc S (escP b) = esc S b := by
  unfold escP esc
  split
  · rfl
  · split <;> rfl
theorem dig_is (b : UInt8) : moPc (escP b) = dig b := by
  unfold escP dig
  split
  · rfl
  · split <;> rfl
theorem dig_lt {b : UInt8} (h : digB b = true) : b.toNat - 48 < 10 ∧ 1 ≤ b.toNat - 48 := by
  unfold digB at h
  simp at h
  omega
theorem escP_ok (b : UInt8) : PcOk (escP b) := by
  unfold escP
  split
  · rename_i h; exact (dig_lt h).1
  · split <;> simp [PcOk]
theorem fst1_some {l : List UInt8} {p : Pc} {r : List UInt8} (h : fst1 l = some (p, r)) (hl : l.length ≤ 1000000) :
    ok l = ok r ∧ mo l = max (moPc p) (mo r) ∧ (∀ S, ex S l = exPc S p ++ ex S r) ∧ r.length < l.length ∧ PcOk p := by
  match l, h with
  | [a], h =>
    simp only [fst1] at h
    split at h
    · rename_i e
      subst e
      injection h with h; injection h with h1 h2; subst h1; subst h2
      exact ⟨by decide, by decide, fun S => by simp [ex, exPc], by simp, by show 0 < 10; omega⟩
    · rename_i e
      split at h
      · cases h
      · rename_i e2
        injection h with h; injection h with h1 h2; subst h1; subst h2
        exact ⟨by simp [ok, e2], rfl, fun S => by simp [ex, exPc, e], by simp, by show 1 ≤ _; omega⟩
  | a :: b :: r', h =>
    simp only [fst1] at h
    split at h
    · rename_i e
      subst e
      injection h with h; injection h with h1 h2; subst h1; subst h2
      exact ⟨by simp [ok], by simp [mo, moPc], fun S => ex_amp S _, by simp, by show 0 < 10; omega⟩
    · rename_i e
      split at h
      · rename_i e2
        subst e2
        injection h with h; injection h with h1 h2; subst h1; subst h2
        refine ⟨ok_bs b _, ?_, fun S => ?_, by simp; omega, escP_ok b⟩
        · rw [mo_bs, dig_is]
        · rw [ex_bs, esc_is]
      · rename_i e2
        injection h with h; injection h with h1 h2; subst h1; subst h2
        obtain ⟨i1, i2, i3⟩ := pl_split (a :: b :: r')
        refine ⟨i1, by rw [i2]; simp [moPc], i3, ?_, ?_⟩
        · rw [List.length_drop]
          have : 0 < pl (a :: b :: r') := by simp [pl, spec, e, e2]
          simp at hl ⊢
          omega
        · show (List.take _ _).length ≤ _
          have := List.length_take_le (pl (a :: b :: r')) (a :: b :: r')
          rw [List.length_take]
          omega
theorem fst1_none {l : List UInt8} (h : fst1 l = none) (h0 : l ≠ []) : ok l = false := by
  match l, h with
  | [], _ => exact absurd rfl h0
  | [a], h =>
    simp only [fst1] at h
    split at h
    · cases h
    · split at h
      · rename_i e; subst e; decide
      · cases h
  | a :: b :: r, h =>
    simp only [fst1] at h
    split at h
    · cases h
    · split at h <;> cases h

theorem exP_snoc (S : Nat → List UInt8) (ps : List Pc) (p : Pc) : exP S (ps ++ [p]) = exP S ps ++ exPc S p := by simp [exP]
theorem moP_snoc (ps : List Pc) (p : Pc) : moP (ps ++ [p]) = max (moP ps) (moPc p) := by simp [moP]
theorem ex_len (S : Nat → List UInt8) (M : Nat) (hS : ∀ n, (S n).length ≤ M) : ∀ l : List UInt8, (ex S l).length ≤ l.length * (M + 1)
  | [] => by simp [ex]
  | [a] => by
    unfold ex
    split
    · have := hS 0; simp; omega
    · simp
  | a :: b :: r => by
    have i1 := ex_len S M hS r
    have i2 := ex_len S M hS (b :: r)
    have e1 : (a :: b :: r).length * (M + 1) = (b :: r).length * (M + 1) + (M + 1) := by simp only [List.length_cons]; rw [Nat.succ_mul]
    have e2 : (b :: r).length * (M + 1) = r.length * (M + 1) + (M + 1) := by simp only [List.length_cons]; rw [Nat.succ_mul]
    unfold ex
    split
    · rw [List.length_append]; have := hS 0; omega
    · split
      · rw [List.length_append]
        have : (esc S b).length ≤ M + 1 := by
          unfold esc
          split
          · have := hS (b.toNat - 48); omega
          · split <;> simp
        omega
      · rw [List.length_cons]; omega

/-- The stretch of a number. -/
def stf (sp : Nat → Int) (s : List UInt8) (n : Nat) : List UInt8 :=
  if sp (2 * n) < 0 ∨ sp (2 * n + 1) < sp (2 * n) ∨ (s.length : Int) < sp (2 * n + 1) then [] else (s.drop (sp (2 * n)).toNat).take ((sp (2 * n + 1)).toNat - (sp (2 * n)).toNat)
theorem stf_len (sp : Nat → Int) (s : List UInt8) (n : Nat) : (stf sp s n).length ≤ s.length := by
  unfold stf
  split
  · simp
  · rw [List.length_take, List.length_drop]; omega

/-! ## Two replacements, one behind the other -/
theorem ok_app : ∀ (a b : List UInt8), ok a = true → ok (a ++ b) = ok b ∧ mo (a ++ b) = max (mo a) (mo b) ∧ ∀ S, ex S (a ++ b) = ex S a ++ ex S b
  | [], b, _ => ⟨rfl, by simp [mo], fun S => rfl⟩
  | [x], b, h => by
    have hx : x ≠ 92 := by simpa [ok] using h
    refine ⟨ok_pl hx b, by rw [List.singleton_append, mo_pl hx]; simp [mo], fun S => ?_⟩
    by_cases h38 : x = 38
    · subst h38
      rw [List.singleton_append, ex_amp]
      simp [ex]
    · rw [List.singleton_append, ex_pl S h38 hx]
      simp [ex, h38]
  | x :: y :: r, b, h => by
    by_cases hx : x = 92
    · subst hx
      rw [ok_bs] at h
      obtain ⟨i1, i2, i3⟩ := ok_app r b h
      refine ⟨?_, ?_, fun S => ?_⟩
      · show ok (92 :: y :: (r ++ b)) = _
        rw [ok_bs, i1]
      · show mo (92 :: y :: (r ++ b)) = _
        rw [mo_bs, mo_bs, i2, Nat.max_assoc]
      · show ex S (92 :: y :: (r ++ b)) = _
        rw [ex_bs, ex_bs, i3 S, List.append_assoc]
    · rw [ok_pl hx] at h
      obtain ⟨i1, i2, i3⟩ := ok_app (y :: r) b h
      refine ⟨?_, ?_, fun S => ?_⟩
      · show ok (x :: ((y :: r) ++ b)) = _
        rw [ok_pl hx, i1]
      · show mo (x :: ((y :: r) ++ b)) = _
        rw [mo_pl hx, mo_pl hx, i2]
      · show ex S (x :: ((y :: r) ++ b)) = _
        by_cases h38 : x = 38
        · subst h38
          rw [ex_amp, ex_amp, i3 S, List.append_assoc]
        · rw [ex_pl S h38 hx, ex_pl S h38 hx, i3 S]
          rfl
/-- Bytes that say nothing are a replacement of themselves. -/
theorem plain_all : ∀ l : List UInt8, (∀ a ∈ l, spec a = false) → ok l = true ∧ mo l = 0 ∧ ∀ S, ex S l = l
  | [], _ => ⟨rfl, rfl, fun _ => rfl⟩
  | a :: r, h => by
    obtain ⟨h1, h2⟩ := spec_no (h a (by simp))
    obtain ⟨i1, i2, i3⟩ := plain_all r fun b hb => h b (by simp [hb])
    exact ⟨(ok_pl h2 r).trans i1, (mo_pl h2 r).trans i2, fun S => by rw [ex_pl S h1 h2, i3 S]⟩
/-- A text with a backslash ahead of each byte that says something. -/
def quo : List UInt8 → List UInt8
  | [] => []
  | a :: r => if spec a then 92 :: a :: quo r else a :: quo r
theorem quo_is : ∀ l : List UInt8, ok (quo l) = true ∧ mo (quo l) = 0 ∧ (quo l).length ≤ 2 * l.length ∧ ∀ S, ex S (quo l) = l
  | [] => ⟨rfl, rfl, Nat.le_refl _, fun _ => rfl⟩
  | a :: r => by
    obtain ⟨i1, i2, i3, i4⟩ := quo_is r
    cases h : spec a with
    | true =>
      have hd : digB a = false ∧ a ≠ 110 := by
        rcases (by simpa [spec] using h : a = 38 ∨ a = 92) with rfl | rfl <;> decide
      simp only [quo, h, if_true, List.length_cons]
      refine ⟨by rw [ok_bs, i1], by rw [mo_bs, i2]; simp [dig, hd.1], by omega, fun S => ?_⟩
      rw [ex_bs, i4 S]
      simp [esc, hd.1, hd.2]
    | false =>
      obtain ⟨h1, h2⟩ := spec_no h
      simp only [quo, h, List.length_cons]
      refine ⟨(ok_pl h2 _).trans i1, (mo_pl h2 _).trans i2, by simp <;> omega, fun S => ?_⟩
      show ex S (a :: quo r) = _
      rw [ex_pl S h1 h2, i4 S]
theorem quo_snoc (l : List UInt8) (a : UInt8) : quo (l ++ [a]) = quo l ++ (if spec a then [92, a] else [a]) := by
  induction l with
  | nil => simp [quo]
  | cons b r ih =>
    show quo (b :: (r ++ [a])) = _
    unfold quo
    rw [ih]
    split <;> rfl

/-! ## Ends -/
theorem not_ok : ∀ l : List UInt8, ok l = false → l ≠ [] ∧ l.getLast? = some 92 ∧ ∀ c, ok (l ++ [c]) = true
  | [], h => by simp [ok] at h
  | [a], h => by
    have : a = 92 := by simpa [ok] using h
    subst this
    exact ⟨by simp, rfl, fun c => by show ok [92, c] = true; rw [ok_bs]; rfl⟩
  | a :: b :: r, h => by
    by_cases hx : a = 92
    · subst hx
      rw [ok_bs] at h
      obtain ⟨i1, i2, i3⟩ := not_ok r h
      refine ⟨by simp, ?_, fun c => ?_⟩
      · cases r with
        | nil => exact absurd rfl i1
        | cons d s => rw [List.getLast?_cons_cons, List.getLast?_cons_cons]; exact i2
      · show ok (92 :: b :: (r ++ [c])) = true
        rw [ok_bs]; exact i3 c
    · rw [ok_pl hx] at h
      obtain ⟨i1, i2, i3⟩ := not_ok (b :: r) h
      refine ⟨by simp, by rw [List.getLast?_cons_cons]; exact i2, fun c => ?_⟩
      show ok (a :: ((b :: r) ++ [c])) = true
      rw [ok_pl hx]; exact i3 c
theorem ok_cut (l : List UInt8) (h : ok l = true) : ok (l ++ [92]) = false := by
  rw [(ok_app l [92] h).1]; decide
end Go.Proofs.Ytibflbepnlemmaa.tpl
