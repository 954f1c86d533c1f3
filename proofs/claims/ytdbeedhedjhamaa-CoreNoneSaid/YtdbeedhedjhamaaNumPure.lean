/- Plain mathematics on texts as lists of bytes: numbers, texts and lists as they are put, and what stands at the front of a text. Nothing of the program is used. -/
import Derived.Lib.ItoaNum
import Derived.Lib.ParseIntBCases
namespace Go.Proofs.Ytdbeedhedjhamaa.num
open Go.Lib

/-- The greatest int. -/
abbrev MX : Nat := 9223372036854775807
def isDig (c : UInt8) : Bool := decide (48 ≤ c.toNat ∧ c.toNat ≤ 57)
/-- What digits say behind a number. -/
def val (acc : Nat) (x : List UInt8) : Nat := x.foldl (fun a c => a * 10 + (c.toNat - 48)) acc
def putN (n : Nat) : List UInt8 := decDigits n ++ [58]
def putT (t : List UInt8) : List UInt8 := putN t.length ++ t
def putL (l : List (List UInt8)) : List UInt8 := putN l.length ++ l.flatMap putT

theorem val_nil (a : Nat) : val a [] = a := by unfold val; rw [List.foldl_nil]
theorem val_cons (a : Nat) (c : UInt8) (r : List UInt8) : val a (c :: r) = val (a * 10 + (c.toNat - 48)) r := by unfold val; rw [List.foldl_cons]
theorem val_append (x y : List UInt8) (a : Nat) : val a (x ++ y) = val (val a x) y := by
  induction x generalizing a with
  | nil => rw [List.nil_append, val_nil]
  | cons c x ih => rw [List.cons_append, val_cons, val_cons, ih]
theorem dig_byte (k : Nat) (h : k < 10) : (UInt8.ofNat (48 + k)).toNat = 48 + k := by
  rw [UInt8.toNat_ofNat']; omega
theorem dig_is (k : Nat) (h : k < 10) : isDig (UInt8.ofNat (48 + k)) = true := by
  unfold isDig; rw [dig_byte k h]; simp; omega
theorem dec_small {n : Nat} (h : n < 10) : decDigits n = [UInt8.ofNat (48 + n)] := decDigits_one h
theorem dec_big {n : Nat} (h : ¬ n < 10) : decDigits n = decDigits (n / 10) ++ [UInt8.ofNat (48 + n % 10)] := by rw [decDigits, dif_neg h]
theorem dec_dig (n : Nat) : ∀ c ∈ decDigits n, isDig c = true := by
  induction n using Nat.strongRecOn with
  | _ n ih =>
    intro c hc
    by_cases h : n < 10
    · rw [dec_small h] at hc
      simp only [List.mem_singleton] at hc
      subst hc
      exact dig_is n h
    · rw [dec_big h] at hc
      rcases List.mem_append.1 hc with hc | hc
      · exact ih (n / 10) (by omega) c hc
      · simp only [List.mem_singleton] at hc
        subst hc
        exact dig_is _ (by omega)
theorem dec_val (n : Nat) : val 0 (decDigits n) = n := by
  induction n using Nat.strongRecOn with
  | _ n ih =>
    by_cases h : n < 10
    · rw [dec_small h]
      simp only [val_cons, val_nil, dig_byte n h]; omega
    · rw [dec_big h, val_append, ih (n / 10) (by omega)]
      simp only [val_cons, val_nil, dig_byte (n % 10) (by omega)]; omega
theorem dec_pos (n : Nat) : 0 < (decDigits n).length := by rw [decDigits_length]; exact nDigits_pos n
theorem dec_len (n k : Nat) (hk : 1 ≤ k) (h : n < 10 ^ k) : (decDigits n).length ≤ k := by
  induction k generalizing n with
  | zero => omega
  | succ k ih =>
    by_cases hn : n < 10
    · rw [dec_small hn]; simp
    · rw [dec_big hn, List.length_append, List.length_singleton]
      have h1 : n / 10 < 10 ^ k := by rw [Nat.pow_succ] at h; omega
      rcases Nat.eq_zero_or_pos k with h0 | h0
      · subst h0; simp at h; omega
      · have := ih (n / 10) h0 h1; omega
theorem dec_len19 {n : Nat} (h : n ≤ MX) : (decDigits n).length ≤ 19 := dec_len n 19 (by omega) (by unfold MX at h; omega)
theorem putN_len (n : Nat) : (putN n).length = (decDigits n).length + 1 := by simp [putN]
theorem putN_len20 {n : Nat} (h : n ≤ MX) : (putN n).length ≤ 20 := by rw [putN_len]; have := dec_len19 h; omega
theorem putN_len2 (n : Nat) : 2 ≤ (putN n).length := by rw [putN_len]; have := dec_pos n; omega

theorem takeWhile_all {p : UInt8 → Bool} : ∀ (x : List UInt8) (c : UInt8) (r : List UInt8), (∀ d ∈ x, p d = true) → p c = false → (x ++ c :: r).takeWhile p = x
  | [], c, r, _, h => by simp [h]
  | d :: x, c, r, hx, h => by
    simp only [List.cons_append, List.takeWhile, hx d (by simp)]
    rw [takeWhile_all x c r (fun e he => hx e (by simp [he])) h]
theorem putN_while (n : Nat) (r : List UInt8) : (putN n ++ r).takeWhile isDig = decDigits n := by
  unfold putN
  rw [List.append_assoc, List.singleton_append]
  exact takeWhile_all _ _ _ (dec_dig n) (by decide)
theorem putN_inj {n m : Nat} {r r' : List UInt8} (h : putN n ++ r = putN m ++ r') : n = m ∧ r = r' := by
  have e : n = m := by
    have := congrArg (fun l => val 0 (l.takeWhile isDig)) h
    simpa only [putN_while, dec_val] using this
  subst e
  exact ⟨rfl, List.append_cancel_left h⟩
theorem putT_inj {t u : List UInt8} {r r' : List UInt8} (h : putT t ++ r = putT u ++ r') : t = u ∧ r = r' := by
  unfold putT at h
  rw [List.append_assoc, List.append_assoc] at h
  obtain ⟨h1, h2⟩ := putN_inj h
  exact List.append_inj h2 h1
theorem putTs_inj : ∀ {l m : List (List UInt8)} {r r' : List UInt8}, l.length = m.length → l.flatMap putT ++ r = m.flatMap putT ++ r' → l = m ∧ r = r'
  | [], [], _, _, _, h => ⟨rfl, by simpa using h⟩
  | [], _ :: _, _, _, hl, _ => by simp at hl
  | _ :: _, [], _, _, hl, _ => by simp at hl
  | x :: l, y :: m, r, r', hl, h => by
    simp only [List.flatMap_cons, List.append_assoc] at h
    obtain ⟨h1, h2⟩ := putT_inj h
    obtain ⟨h3, h4⟩ := putTs_inj (by simpa using hl) h2
    exact ⟨by rw [h1, h3], h4⟩
theorem putL_inj {l m : List (List UInt8)} {r r' : List UInt8} (h : putL l ++ r = putL m ++ r') : l = m ∧ r = r' := by
  unfold putL at h
  rw [List.append_assoc, List.append_assoc] at h
  obtain ⟨h1, h2⟩ := putN_inj h
  exact putTs_inj h1 h2

/-! ## What stands at the front of a text -/
def getN (l : List UInt8) : Option Nat :=
  if val 0 (l.takeWhile isDig) ≤ MX ∧ (putN (val 0 (l.takeWhile isDig))).isPrefixOf l = true then some (val 0 (l.takeWhile isDig)) else none
def getT (l : List UInt8) : Option (List UInt8) :=
  match getN l with
  | none => none
  | some n => if n ≤ (l.drop (putN n).length).length then some ((l.drop (putN n).length).take n) else none
def getTs : Nat → List UInt8 → Option (List (List UInt8))
  | 0, _ => some []
  | k + 1, l =>
    match getT l with
    | none => none
    | some t => (getTs k (l.drop (putT t).length)).map (t :: ·)
def getL (l : List UInt8) : Option (List (List UInt8)) :=
  match getN l with
  | none => none
  | some k => getTs k (l.drop (putN k).length)

theorem getN_iff {l : List UInt8} {n : Nat} : getN l = some n ↔ n ≤ MX ∧ putN n <+: l := by
  unfold getN
  constructor
  · intro h
    split at h
    · rename_i hc
      injection h with h
      rw [h] at hc
      exact ⟨hc.1, List.isPrefixOf_iff_prefix.1 hc.2⟩
    · cases h
  · rintro ⟨h1, r, rfl⟩
    rw [putN_while, dec_val, if_pos ⟨h1, List.isPrefixOf_iff_prefix.2 ⟨r, rfl⟩⟩]
theorem getN_put {n : Nat} (h : n ≤ MX) (r : List UInt8) : getN (putN n ++ r) = some n := getN_iff.2 ⟨h, r, rfl⟩
theorem getN_drop {l : List UInt8} {n : Nat} (h : getN l = some n) : l = putN n ++ l.drop (putN n).length := by
  obtain ⟨r, rfl⟩ := (getN_iff.1 h).2
  rw [List.drop_left]
theorem getT_iff {l t : List UInt8} : getT l = some t ↔ t.length ≤ MX ∧ putT t <+: l := by
  constructor
  · intro h
    unfold getT at h
    split at h
    · cases h
    · rename_i n hn
      split at h
      · rename_i hl
        injection h with h
        have hd := getN_drop hn
        have ht : t.length = n := by rw [← h, List.length_take]; omega
        refine ⟨by rw [ht]; exact (getN_iff.1 hn).1, (l.drop (putN n).length).drop n, ?_⟩
        unfold putT
        rw [ht, ← h, List.append_assoc, List.take_append_drop]
        exact hd.symm
      · cases h
  · rintro ⟨h1, r, rfl⟩
    unfold getT
    have e : getN (putT t ++ r) = some t.length := by unfold putT; rw [List.append_assoc]; exact getN_put h1 _
    rw [e]
    have e2 : (putT t ++ r).drop (putN t.length).length = t ++ r := by unfold putT; rw [List.append_assoc, List.drop_left]
    simp only [e2, List.length_append, Nat.le_add_right, if_true, List.take_left]
theorem getT_put {t : List UInt8} (h : t.length ≤ MX) (r : List UInt8) : getT (putT t ++ r) = some t := getT_iff.2 ⟨h, r, rfl⟩
theorem getT_drop {l t : List UInt8} (h : getT l = some t) : l = putT t ++ l.drop (putT t).length := by
  obtain ⟨r, rfl⟩ := (getT_iff.1 h).2
  rw [List.drop_left]
theorem getTs_iff : ∀ {k : Nat} {l : List UInt8} {ts : List (List UInt8)}, getTs k l = some ts ↔ ts.length = k ∧ (∀ t ∈ ts, t.length ≤ MX) ∧ ts.flatMap putT <+: l
  | 0, l, ts => by
    simp only [getTs]
    constructor
    · intro h
      injection h with h
      subst h
      exact ⟨rfl, by simp, ⟨l, by simp⟩⟩
    · rintro ⟨h, _, _⟩
      rw [List.eq_nil_of_length_eq_zero h]
  | k + 1, l, ts => by
    simp only [getTs]
    constructor
    · intro h
      split at h
      · cases h
      · rename_i t ht
        obtain ⟨us, hu, rfl⟩ := Option.map_eq_some_iff.1 h
        obtain ⟨h1, h2, r, h3⟩ := getTs_iff.1 hu
        refine ⟨by rw [List.length_cons, h1], ?_, r, ?_⟩
        · intro x hx
          rcases List.mem_cons.1 hx with rfl | hx
          · exact (getT_iff.1 ht).1
          · exact h2 x hx
        · rw [List.flatMap_cons, List.append_assoc, h3]
          exact (getT_drop ht).symm
    · rintro ⟨h1, h2, r, rfl⟩
      match ts, h1, h2 with
      | x :: us, h1, h2 =>
        rw [List.flatMap_cons, List.append_assoc, getT_put (h2 x (by simp))]
        have := (getTs_iff (k := k) (l := us.flatMap putT ++ r) (ts := us)).2 ⟨by simpa using h1, fun t ht => h2 t (by simp [ht]), ⟨r, rfl⟩⟩
        simp only [List.drop_left, this, Option.map_some]
theorem getL_iff {l : List UInt8} {ts : List (List UInt8)} : getL l = some ts ↔ ts.length ≤ MX ∧ (∀ t ∈ ts, t.length ≤ MX) ∧ putL ts <+: l := by
  constructor
  · intro h
    unfold getL at h
    split at h
    · cases h
    · rename_i k hk
      obtain ⟨h1, h2, r, h3⟩ := getTs_iff.1 h
      refine ⟨by rw [h1]; exact (getN_iff.1 hk).1, h2, r, ?_⟩
      unfold putL
      rw [h1, List.append_assoc, h3]
      exact (getN_drop hk).symm
  · rintro ⟨h1, h2, r, rfl⟩
    unfold getL
    have e : getN (putL ts ++ r) = some ts.length := by unfold putL; rw [List.append_assoc]; exact getN_put h1 _
    rw [e]
    have e2 : (putL ts ++ r).drop (putN ts.length).length = ts.flatMap putT ++ r := by unfold putL; rw [List.append_assoc, List.drop_left]
    simp only [e2]
    exact getTs_iff.2 ⟨rfl, h2, r, rfl⟩
theorem getL_put {ts : List (List UInt8)} (h : ts.length ≤ MX) (h2 : ∀ t ∈ ts, t.length ≤ MX) (r : List UInt8) : getL (putL ts ++ r) = some ts := getL_iff.2 ⟨h, h2, r, rfl⟩

/-! ## Digits that are a number -/
theorem val_ge (x : List UInt8) (a : Nat) : a ≤ val a x := by
  induction x generalizing a with
  | nil => rw [val_nil]; exact Nat.le_refl _
  | cons c x ih => rw [val_cons]; exact Nat.le_trans (by omega) (ih _)

/-- Digits, none too many, are the numeral of what they say. -/
theorem dec_of_digits (x : List UInt8) (a : Nat) (h : ∀ c ∈ x, isDig c = true) (ha : 0 < a) : decDigits a ++ x = decDigits (val a x) := by
  induction x generalizing a with
  | nil => rw [val_nil, List.append_nil]
  | cons c x ih =>
    have hc := h c (by simp)
    unfold isDig at hc
    simp only [decide_eq_true_eq] at hc
    have e : decDigits a ++ [c] = decDigits (a * 10 + (c.toNat - 48)) := by
      rw [dec_big (n := a * 10 + (c.toNat - 48)) (by omega)]
      have e1 : (a * 10 + (c.toNat - 48)) / 10 = a := by omega
      have e2 : (a * 10 + (c.toNat - 48)) % 10 = c.toNat - 48 := by omega
      have e3 : UInt8.ofNat (48 + (c.toNat - 48)) = c := by rw [show 48 + (c.toNat - 48) = c.toNat by omega]; simp
      rw [e1, e2, e3]
    rw [val_cons, ← ih _ (fun d hd => h d (by simp [hd])) (by omega), ← e]
    simp
/-- Do digits begin with a 0 too many? -/
def tooMany (x : List UInt8) : Bool := decide (1 < x.length ∧ x.head? = some 48)
theorem dec_of {x : List UInt8} (h0 : x ≠ []) (hd : ∀ c ∈ x, isDig c = true) (ht : tooMany x = false) : x = decDigits (val 0 x) := by
  match x, h0 with
  | c :: y, _ =>
    have hc := hd c (by simp)
    unfold isDig at hc
    simp only [decide_eq_true_eq] at hc
    have e3 : UInt8.ofNat (48 + (c.toNat - 48)) = c := by rw [show 48 + (c.toNat - 48) = c.toNat by omega]; simp
    by_cases hz : c = 48
    · subst hz
      match y with
      | [] => rw [val_cons, val_nil, dec_small (by decide)]; rfl
      | _ :: _ => simp [tooMany] at ht
    · have hpos : 0 < c.toNat - 48 := by
        have : c.toNat ≠ 48 := fun e => hz (UInt8.toNat_inj.1 e)
        omega
      simp only [val_cons, Nat.zero_mul, Nat.zero_add]
      rw [← dec_of_digits y _ (fun d hd' => hd d (by simp [hd'])) hpos, dec_small (by omega), e3]
      rfl
theorem dec_head {n : Nat} (h : ¬ n < 10) : (decDigits n).head? ≠ some 48 := by
  induction n using Nat.strongRecOn with
  | _ n ih =>
    rw [dec_big h]
    by_cases h1 : n / 10 < 10
    · rw [dec_small h1]
      simp only [List.cons_append, List.nil_append, List.head?_cons, ne_eq, Option.some.injEq]
      intro e
      have := congrArg UInt8.toNat e
      rw [dig_byte _ h1] at this
      simp at this
      omega
    · have := ih (n / 10) (by omega) h1
      have hne : decDigits (n / 10) ≠ [] := fun e => by have := dec_pos (n / 10); rw [e] at this; simp at this
      obtain ⟨c, y, hy⟩ := List.exists_cons_of_ne_nil hne
      rw [hy] at this ⊢
      simpa using this
theorem dec_few (n : Nat) : tooMany (decDigits n) = false := by
  unfold tooMany
  by_cases h : n < 10
  · rw [dec_small h]; simp
  · have := dec_head h
    simp [this]

/-- What ParseUint tells of digits, at 63 bits. -/
theorem parse_ok {x : List UInt8} {a u : Nat} (h : parseUintM MX a x = .ok u) : (∀ c ∈ x, isDig c = true) ∧ val a x = u := by
  induction x generalizing a with
  | nil =>
    simp only [parseUintM] at h
    injection h with h
    exact ⟨by simp, by rw [val_nil]; exact h⟩
  | cons c r ih =>
    simp only [parseUintM] at h
    split at h
    · rename_i hc
      split at h
      · cases h
      · split at h
        · cases h
        · obtain ⟨h1, h2⟩ := ih h
          refine ⟨fun d hd => ?_, by rw [val_cons]; exact h2⟩
          rcases List.mem_cons.1 hd with rfl | hd
          · unfold isDig; simpa using hc
          · exact h1 d hd
    · cases h
theorem parse_of {x : List UInt8} {a : Nat} (hd : ∀ c ∈ x, isDig c = true) (hv : val a x ≤ MX) : parseUintM MX a x = .ok (val a x) := by
  induction x generalizing a with
  | nil => rw [val_nil]; rfl
  | cons c r ih =>
    have hc := hd c (by simp)
    unfold isDig at hc
    simp only [decide_eq_true_eq] at hc
    rw [val_cons] at hv ⊢
    have hle := val_ge r (a * 10 + (c.toNat - 48))
    have hM : a * 10 + (c.toNat - 48) ≤ MX := Nat.le_trans hle hv
    simp only [parseUintM]
    rw [if_pos hc, if_neg (by unfold MX at hM; omega), if_neg (by omega)]
    exact ih (fun d hd' => hd d (by simp [hd'])) hv

/-- The number that digits are, if they are just its. -/
def numD (x : List UInt8) : Option Nat :=
  match parseUintB 63 x with
  | .ok u => if tooMany x then none else some u
  | _ => none
theorem p63 : (2 : Nat) ^ 63 - 1 = MX := by decide
theorem numD_iff {x : List UInt8} {n : Nat} : numD x = some n ↔ n ≤ MX ∧ x = decDigits n := by
  unfold numD parseUintB
  rw [p63]
  constructor
  · intro h
    split at h
    · rename_i u hu
      split at hu
      · cases hu
      · rename_i hne
        split at h
        · cases h
        · rename_i htm
          injection h with h
          subst h
          obtain ⟨h1, h2⟩ := parse_ok hu
          refine ⟨parseUintM_le MX x 0 u (by omega) hu, ?_⟩
          rw [← h2]
          exact dec_of hne h1 (by simpa using htm)
    · cases h
  · rintro ⟨h1, rfl⟩
    have hne : decDigits n ≠ [] := fun e => by have := dec_pos n; rw [e] at this; simp at this
    rw [if_neg hne, parse_of (dec_dig n) (by rw [dec_val]; exact h1), dec_val]
    simp [dec_few]

/-- What stands ahead of the first byte 58, what stands behind it, and whether there is one. -/
def cut58 : List UInt8 → List UInt8 × List UInt8 × Bool
  | [] => ([], [], false)
  | c :: r => if c = 58 then ([], r, true) else (c :: (cut58 r).1, (cut58 r).2.1, (cut58 r).2.2)
theorem cut58_none : ∀ (r : List UInt8), (58 : UInt8) ∉ r → cut58 r = (r, [], false)
  | [], _ => rfl
  | c :: r, h => by
    have hc : ¬ c = 58 := fun e => h (by simp [e])
    simp only [cut58, if_neg hc, cut58_none r (fun e => h (by simp [e]))]
theorem cut58_some : ∀ (r : List UInt8) (o : Nat), r[o]? = some 58 → (∀ k, k < o → r[k]? ≠ some 58) → cut58 r = (r.take o, r.drop (o + 1), true)
  | [], o, h, _ => by simp at h
  | c :: r, o, h, hk => by
    cases o with
    | zero =>
      have hc : c = 58 := by simpa using h
      simp [cut58, hc]
    | succ o =>
      have hc : ¬ c = 58 := fun e => hk 0 (by omega) (by simp [e])
      have ih := cut58_some r o (by simpa using h) (fun k hko => by have := hk (k + 1) (by omega); simpa using this)
      simp [cut58, if_neg hc, ih]
theorem cut58_text : ∀ (r : List UInt8), (cut58 r).2.2 = true → r = (cut58 r).1 ++ 58 :: (cut58 r).2.1
  | [], h => by simp [cut58] at h
  | c :: r, h => by
    by_cases hc : c = 58
    · simp [cut58, hc]
    · simp only [cut58, if_neg hc] at h ⊢
      rw [List.cons_append, ← cut58_text r h]
theorem cut58_put : ∀ (x r : List UInt8), (∀ c ∈ x, isDig c = true) → cut58 (x ++ 58 :: r) = (x, r, true)
  | [], r, _ => by simp [cut58]
  | c :: x, r, h => by
    have hc : ¬ c = 58 := fun e => by have := h c (by simp); rw [e] at this; exact absurd this (by decide)
    simp only [List.cons_append, cut58, if_neg hc, cut58_put x r (fun d hd => h d (by simp [hd]))]

/-- The program's way: the first twenty bytes are cut at the first byte 58. -/
theorem getN_near (l : List UInt8) : getN l = if (cut58 (l.take 20)).2.2 = true then numD (cut58 (l.take 20)).1 else none := by
  apply Option.ext
  intro n
  rw [getN_iff]
  constructor
  · rintro ⟨h1, r, rfl⟩
    have h20 := putN_len20 h1
    have e : (putN n ++ r).take 20 = decDigits n ++ 58 :: r.take (20 - (putN n).length) := by
      rw [List.take_append, List.take_of_length_le h20]; unfold putN; simp
    rw [e, cut58_put _ _ (dec_dig n)]
    simp only [if_true]
    exact numD_iff.2 ⟨h1, rfl⟩
  · intro h
    split at h
    · rename_i hb
      obtain ⟨h1, h2⟩ := numD_iff.1 h
      refine ⟨h1, (cut58 (l.take 20)).2.1 ++ l.drop 20, ?_⟩
      have := cut58_text _ hb
      rw [h2] at this
      conv => rhs; rw [← List.take_append_drop 20 l, this]
      unfold putN
      simp
    · cases h
end Go.Proofs.Ytdbeedhedjhamaa.num
