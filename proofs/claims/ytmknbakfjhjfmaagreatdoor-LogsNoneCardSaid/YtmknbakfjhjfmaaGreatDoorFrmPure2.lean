/- Frames on plain lists of bytes: lines' ends in a frame, a length that is off by one, a byte that is another one. -/
import Derived.Test.YtmknbakfjhjfmaaGreatDoorNumPure
import Derived.Test.YtmknbakfjhjfmaaGreatDoorSumPure2
/-! Frames on plain lists of bytes: a payload's frame, what stands at the front of a text, rows of frames; what follows. Nothing of the program is used. -/
namespace Go.Proofs.YtmknbakfjhjfmaaGreatDoor.frm
open Go.Proofs.YtmknbakfjhjfmaaGreatDoor.num Go.Proofs.YtmknbakfjhjfmaaGreatDoor.sum Go.Lib

/-- How long a payload may be. -/
abbrev MF : Nat := 4194304
/-- The nine bytes behind a payload. -/
def tailL (p : List UInt8) : List UInt8 := hexN (sumN p) ++ [10]
def frameL (p : List UInt8) : List UInt8 := putT p ++ tailL p
/-- Frames, one behind the other. -/
def frs (ps : List (List UInt8)) : List UInt8 := ps.flatMap frameL

theorem hexN_length (x : Nat) : (hexN x).length = 8 := digs_length 8 x
theorem tailL_length (p : List UInt8) : (tailL p).length = 9 := by unfold tailL; rw [List.length_append, hexN_length]; rfl
theorem putT_length (p : List UInt8) : (putT p).length = (putN p.length).length + p.length := by unfold putT; rw [List.length_append]
theorem frameL_length (p : List UInt8) : (frameL p).length = (putN p.length).length + p.length + 9 := by unfold frameL; rw [List.length_append, tailL_length, putT_length]
theorem frameL_pos (p : List UInt8) : 11 ≤ (frameL p).length := by rw [frameL_length]; have := putN_len2 p.length; omega
theorem frameL_le {p : List UInt8} (h : p.length ≤ MX) : (frameL p).length ≤ p.length + 29 := by rw [frameL_length]; have := putN_len20 h; omega
theorem frameL_inj {p q r r' : List UInt8} (h : frameL p ++ r = frameL q ++ r') : p = q ∧ r = r' := by
  unfold frameL at h
  rw [List.append_assoc, List.append_assoc] at h
  obtain ⟨rfl, h2⟩ := putT_inj h
  exact ⟨rfl, List.append_cancel_left h2⟩
theorem frs_nil : frs [] = [] := rfl
theorem frs_cons (p : List UInt8) (ps : List (List UInt8)) : frs (p :: ps) = frameL p ++ frs ps := by unfold frs; rw [List.flatMap_cons]
theorem frs_append (a b : List (List UInt8)) : frs (a ++ b) = frs a ++ frs b := by unfold frs; rw [List.flatMap_append]
theorem frs_snoc (a : List (List UInt8)) (p : List UInt8) : frs (a ++ [p]) = frs a ++ frameL p := by rw [frs_append, frs_cons, frs_nil, List.append_nil]

/-! ## The frame at the front of a text -/
def nextL (l : List UInt8) : Option (List UInt8) :=
  match getT l with
  | none => none
  | some p => if p.length ≤ MF ∧ (l.drop (putT p).length).take 9 = tailL p then some p else none
theorem nextL_iff {l p : List UInt8} : nextL l = some p ↔ p.length ≤ MF ∧ frameL p <+: l := by
  constructor
  · intro h
    unfold nextL at h
    split at h
    · cases h
    · rename_i q hq
      split at h
      · rename_i hc
        injection h with h
        subst h
        refine ⟨hc.1, (l.drop (putT q).length).drop 9, ?_⟩
        unfold frameL
        rw [List.append_assoc, ← hc.2, List.take_append_drop]
        exact (getT_drop hq).symm
      · cases h
  · rintro ⟨h1, r, rfl⟩
    unfold nextL frameL
    rw [List.append_assoc, getT_put (by unfold MF at h1; unfold MX; omega)]
    simp only [List.drop_left]
    have e : (tailL p ++ r).take 9 = tailL p := by rw [← tailL_length p]; exact List.take_left
    rw [if_pos ⟨h1, e⟩]
theorem nextL_put {p : List UInt8} (h : p.length ≤ MF) (r : List UInt8) : nextL (frameL p ++ r) = some p := nextL_iff.2 ⟨h, r, rfl⟩
theorem nextL_none {l : List UInt8} (h : getT l = none) : nextL l = none := by unfold nextL; rw [h]
theorem nextL_some {l p : List UInt8} (h : getT l = some p) : nextL l = if p.length ≤ MF ∧ (l.drop (putT p).length).take 9 = tailL p then some p else none := by unfold nextL; rw [h]
theorem nextL_drop {l p : List UInt8} (h : nextL l = some p) : l = frameL p ++ l.drop (frameL p).length := by
  obtain ⟨r, rfl⟩ := (nextL_iff.1 h).2
  rw [List.drop_left]
theorem nextL_empty : nextL [] = none := by
  cases h : nextL [] with
  | none => rfl
  | some p => have h1 := (nextL_iff.1 h).2.length_le; have h2 := frameL_pos p; rw [List.length_nil] at h1; omega

/-! ## All frames from the front of a text on -/
def IsWhole (l : List UInt8) (ps : List (List UInt8)) : Prop := (∀ p ∈ ps, p.length ≤ MF) ∧ ∃ r, l = frs ps ++ r ∧ nextL r = none
theorem IsWhole.nil {l : List UInt8} (h : nextL l = none) : IsWhole l [] := ⟨by simp, l, rfl, h⟩
theorem IsWhole.split : ∀ {a c : List (List UInt8)} {x : List UInt8}, (∀ p ∈ a, p.length ≤ MF) → IsWhole (frs a ++ x) c → ∃ d, c = a ++ d ∧ IsWhole x d
  | [], c, x, _, h => ⟨c, rfl, by simpa [frs_nil] using h⟩
  | p :: a, c, x, ha, h => by
    obtain ⟨hc, r, e, hr⟩ := h
    rw [frs_cons, List.append_assoc] at e
    cases c with
    | nil =>
      rw [frs_nil, List.nil_append] at e
      rw [← e, nextL_put (ha p (by simp))] at hr
      cases hr
    | cons q c =>
      rw [frs_cons, List.append_assoc] at e
      obtain ⟨rfl, e2⟩ := frameL_inj e
      obtain ⟨d, rfl, hd⟩ := IsWhole.split (fun y hy => ha y (by simp [hy])) ⟨fun y hy => hc y (by simp [hy]), r, e2, hr⟩
      exact ⟨d, rfl, hd⟩
theorem IsWhole.join {a d : List (List UInt8)} {x : List UInt8} (ha : ∀ p ∈ a, p.length ≤ MF) (h : IsWhole x d) : IsWhole (frs a ++ x) (a ++ d) := by
  obtain ⟨hd, r, rfl, hr⟩ := h
  refine ⟨fun p hp => ?_, r, by rw [frs_append, List.append_assoc], hr⟩
  rcases List.mem_append.1 hp with hp | hp
  · exact ha p hp
  · exact hd p hp
theorem IsWhole.none_of {l : List UInt8} {ps : List (List UInt8)} (h : IsWhole l ps) (hn : nextL l = none) : ps = [] := by
  obtain ⟨hp, r, rfl, hr⟩ := h
  cases ps with
  | nil => rfl
  | cons p ps =>
    rw [frs_cons, List.append_assoc, nextL_put (hp p (by simp))] at hn
    cases hn
theorem IsWhole.uniq {l : List UInt8} {a b : List (List UInt8)} (ha : IsWhole l a) (hb : IsWhole l b) : a = b := by
  obtain ⟨h1, r, rfl, hr⟩ := ha
  obtain ⟨d, rfl, hd⟩ := IsWhole.split h1 hb
  rw [hd.none_of hr, List.append_nil]
theorem IsWhole.length_le {l : List UInt8} {a : List (List UInt8)} (h : IsWhole l a) : (frs a).length ≤ l.length := by
  obtain ⟨_, r, rfl, _⟩ := h
  rw [List.length_append]; omega
theorem IsWhole.front {l : List UInt8} {a : List (List UInt8)} (h : IsWhole l a) : l.take (frs a).length = frs a := by
  obtain ⟨_, r, rfl, _⟩ := h
  rw [List.take_left]
theorem IsWhole.rest {l : List UInt8} {a : List (List UInt8)} (h : IsWhole l a) : nextL (l.drop (frs a).length) = none := by
  obtain ⟨_, r, rfl, hr⟩ := h
  rw [List.drop_left]; exact hr
theorem frs_count : ∀ (a : List (List UInt8)), 11 * a.length ≤ (frs a).length
  | [] => by simp [frs_nil]
  | p :: a => by rw [frs_cons, List.length_append, List.length_cons]; have := frs_count a; have := frameL_pos p; omega
/-- The next one at the end of the first k. -/
theorem IsWhole.at_k {l : List UInt8} {a : List (List UInt8)} (h : IsWhole l a) {k : Nat} (hk : k < a.length) : nextL (l.drop (frs (a.take k)).length) = some a[k] := by
  obtain ⟨ha, r, rfl, hr⟩ := h
  have e : frs a = frs (a.take k) ++ (frameL a[k] ++ frs (a.drop (k + 1))) := by
    rw [← frs_cons, ← frs_append, ← List.drop_eq_getElem_cons hk, List.take_append_drop]
  rw [e, List.append_assoc, List.drop_left, List.append_assoc]
  exact nextL_put (ha _ (List.getElem_mem hk)) _
theorem frs_take_succ {a : List (List UInt8)} {k : Nat} (hk : k < a.length) : frs (a.take (k + 1)) = frs (a.take k) ++ frameL a[k] := by
  rw [← frs_snoc, List.take_succ_eq_append_getElem hk]

/-! ## What is written behind; what goes -/
theorem IsWhole.grow {t m : List UInt8} {a c : List (List UInt8)} (h : IsWhole t a) (hc : IsWhole (t ++ m) c) : ∃ d, c = a ++ d ∧ (∀ b, IsWhole m b → (frs a).length = t.length → d = b) := by
  obtain ⟨ha, r, rfl, hr⟩ := h
  rw [List.append_assoc] at hc
  obtain ⟨d, rfl, hd⟩ := IsWhole.split ha hc
  refine ⟨d, rfl, fun b hb hl => ?_⟩
  have : r = [] := List.eq_nil_of_length_eq_zero (by rw [List.length_append] at hl; omega)
  subst this
  exact hd.uniq hb
theorem IsWhole.drop : ∀ {ps l : List (List UInt8)} {k : Nat}, (∀ p ∈ ps, p.length ≤ MF) → IsWhole ((frs ps).take k) l → ∃ d, ps = l ++ d ∧ ∀ q d', d = q :: d' → k < (frs l).length + (frameL q).length
  | [], l, k, _, h => by
    rw [frs_nil, List.take_nil] at h
    have := h.none_of nextL_empty
    subst this
    exact ⟨[], rfl, fun q d' e => by cases e⟩
  | p :: ps, l, k, hp, h => by
    rw [frs_cons] at h
    by_cases hk : (frameL p).length ≤ k
    · have e : (frameL p ++ frs ps).take k = frs [p] ++ (frs ps).take (k - (frameL p).length) := by
        rw [List.take_append, List.take_of_length_le hk, frs_cons, frs_nil, List.append_nil]
      rw [e] at h
      obtain ⟨d, rfl, hd⟩ := IsWhole.split (a := [p]) (fun y hy => hp y (by simp at hy; simp [hy])) h
      obtain ⟨d2, rfl, h2⟩ := IsWhole.drop (fun y hy => hp y (by simp [hy])) hd
      refine ⟨d2, by simp, fun q d' e' => ?_⟩
      have := h2 q d' e'
      rw [List.singleton_append, frs_cons, List.length_append]
      omega
    · have hn : nextL ((frameL p ++ frs ps).take k) = none := by
        cases hq : nextL ((frameL p ++ frs ps).take k) with
        | none => rfl
        | some q =>
          have h1 := nextL_iff.1 hq
          have h2 : frameL q <+: frameL p ++ frs ps := h1.2.trans (List.take_prefix _ _)
          obtain ⟨r, h3⟩ := h2
          obtain ⟨rfl, _⟩ := frameL_inj h3
          have := h1.2.length_le
          rw [List.length_take] at this
          omega
      have := h.none_of hn
      subst this
      refine ⟨p :: ps, rfl, fun q d' e => ?_⟩
      injection e with e1 e2
      subst e1
      rw [frs_nil]; simp; omega
end Go.Proofs.YtmknbakfjhjfmaaGreatDoor.frm

/-! Frames on plain lists of bytes: lines' ends in a frame, a length that is off by one, a byte that is another one. -/
namespace Go.Proofs.YtmknbakfjhjfmaaGreatDoor.frm
open Go.Proofs.YtmknbakfjhjfmaaGreatDoor.num Go.Proofs.YtmknbakfjhjfmaaGreatDoor.sum Go.Lib

theorem hexD_ne10 (d : Nat) (h : d < 16) : hexD d ≠ 10 := by
  intro e
  have e2 := congrArg UInt8.toNat e
  rcases Nat.lt_or_ge d 10 with h1 | h1
  · rw [hexD_lt h1] at e2; simp at e2; omega
  · rw [hexD_ge h1 h] at e2; simp at e2; omega
theorem hexD_inj {d e : Nat} (h : d < 16) (h' : e < 16) (he : hexD d = hexD e) : d = e := by
  have e2 := congrArg UInt8.toNat he
  rcases Nat.lt_or_ge d 10 with h1 | h1 <;> rcases Nat.lt_or_ge e 10 with h2 | h2
  · rw [hexD_lt h1, hexD_lt h2] at e2; omega
  · rw [hexD_lt h1, hexD_ge h2 h'] at e2; omega
  · rw [hexD_ge h1 h, hexD_lt h2] at e2; omega
  · rw [hexD_ge h1 h, hexD_ge h2 h'] at e2; omega
theorem digs_ne10 (n x : Nat) : ∀ c ∈ digs n x, c ≠ 10 := by
  induction n generalizing x with
  | zero => intro c h; cases h
  | succ n ih =>
    intro c h
    rw [digs] at h
    rcases List.mem_append.1 h with h | h
    · exact ih _ c h
    · rw [List.mem_singleton.1 h]; exact hexD_ne10 _ (Nat.mod_lt _ (by decide))
theorem digs_inj (n x y : Nat) (hx : x < 16 ^ n) (hy : y < 16 ^ n) (h : digs n x = digs n y) : x = y := by
  induction n generalizing x y with
  | zero => simp at hx hy; omega
  | succ n ih =>
    rw [digs, digs] at h
    obtain ⟨h1, h2⟩ := List.append_inj' h rfl
    have e1 := ih _ _ (by rw [Nat.pow_succ] at hx; omega) (by rw [Nat.pow_succ] at hy; omega) h1
    have e2 := hexD_inj (Nat.mod_lt _ (by decide)) (Nat.mod_lt _ (by decide)) (List.cons.inj h2).1
    omega
theorem hexN_inj {x y : Nat} (hx : x < 4294967296) (hy : y < 4294967296) (h : hexN x = hexN y) : x = y := digs_inj 8 x y hx hy h
theorem tailL_sum {p q : List UInt8} (h : tailL p = tailL q) : sumN p = sumN q := by
  unfold tailL at h
  exact hexN_inj (sumN_lt p) (sumN_lt q) (List.append_inj' h rfl).1

/-! ## Lines' ends -/
theorem count_none {l : List UInt8} (h : ∀ c ∈ l, c ≠ 10) : l.count 10 = 0 := List.count_eq_zero.2 fun hm => h 10 hm rfl
theorem putN_count (n : Nat) : (putN n).count 10 = 0 := by
  refine count_none fun c hc e => ?_
  unfold putN at hc
  subst e
  rcases List.mem_append.1 hc with hc | hc
  · have := dec_dig n _ hc; exact absurd this (by decide)
  · exact absurd (List.mem_singleton.1 hc) (by decide)
theorem tailL_count (p : List UInt8) : (tailL p).count 10 = 1 := by
  unfold tailL
  rw [List.count_append, count_none (l := hexN (sumN p)) (digs_ne10 8 _)]
  rfl
theorem frameL_count (p : List UInt8) : (frameL p).count 10 = p.count 10 + 1 := by
  unfold frameL putT
  rw [List.count_append, List.count_append, putN_count, tailL_count]; omega
theorem frameL_last (p : List UInt8) : (frameL p)[(frameL p).length - 1]? = some 10 := by
  unfold frameL tailL
  rw [← List.append_assoc, List.length_append, List.getElem?_append_right (by simp)]
  simp

/-! ## A length that is off by one -/
theorem longer_none (p : List UInt8) : nextL (putN (p.length + 1) ++ (p ++ tailL p)) = none := by
  cases hq : nextL (putN (p.length + 1) ++ (p ++ tailL p)) with
  | none => rfl
  | some q =>
    obtain ⟨_, r, e⟩ := nextL_iff.1 hq
    unfold frameL putT at e
    rw [List.append_assoc, List.append_assoc] at e
    obtain ⟨h1, h2⟩ := putN_inj e
    have h3 := congrArg List.length h2
    simp only [List.length_append, tailL_length] at h3
    omega
theorem shorter_none (p : List UInt8) (h : p ≠ []) : nextL (putN (p.length - 1) ++ (p ++ tailL p)) = none := by
  cases hq : nextL (putN (p.length - 1) ++ (p ++ tailL p)) with
  | none => rfl
  | some q =>
    exfalso
    obtain ⟨_, r, e⟩ := nextL_iff.1 hq
    unfold frameL putT at e
    rw [List.append_assoc, List.append_assoc] at e
    obtain ⟨h1, h2⟩ := putN_inj e
    obtain ⟨p', c, rfl⟩ : ∃ p' c, p = p' ++ [c] := ⟨p.dropLast, p.getLast h, (List.dropLast_concat_getLast h).symm⟩
    rw [List.append_assoc] at h2
    obtain ⟨rfl, h3⟩ := List.append_inj h2 (by simpa using h1)
    unfold tailL at h3
    have h4 := congrArg (fun l : List UInt8 => l[8]?) h3
    have h5 : ((hexN (sumN q) ++ [10]) ++ r)[8]? = some 10 := by
      rw [List.getElem?_append_left (by simp [hexN_length]), List.getElem?_append_right (by rw [hexN_length]; exact Nat.le_refl _), hexN_length]; rfl
    have h6 : ([c] ++ (hexN (sumN (q ++ [c])) ++ [10]))[8]? = (hexN (sumN (q ++ [c])))[7]? := by
      rw [List.getElem?_append_right (by simp), List.getElem?_append_left (by simp [hexN_length])]; rfl
    have h7 : (hexN (sumN (q ++ [c])))[7]? = some 10 := by rw [← h6, ← h5]; exact h4.symm
    exact digs_ne10 8 _ 10 (List.mem_of_getElem? h7) rfl

/-! ## A byte that is another one -/
theorem sum_set (p : List UInt8) (i : Nat) (c : UInt8) (h : i < p.length) (hc : c ≠ p[i]) : sumN (p.set i c) ≠ sumN p := by
  have e1 : p = p.take i ++ p[i] :: p.drop (i + 1) := by rw [← List.drop_eq_getElem_cons h, List.take_append_drop]
  have e2 : p.set i c = p.take i ++ c :: p.drop (i + 1) := List.set_eq_take_append_cons_drop.trans (by rw [if_pos h])
  have d1 := w1_differ (p.take i) (p.drop (i + 1)) p[i] c
  have d2 := w2_differ (p.take i) (p.drop (i + 1)) p[i] c
  rw [← e1, ← e2] at d1 d2
  have hb := c.toNat_lt
  have hd := (p[i]).toNat_lt
  have hne : (c.toNat : Int) - (p[i]).toNat ≠ 0 := fun e => hc (UInt8.toNat_inj.1 (by omega))
  intro e
  unfold sumN at e
  exact hne ((differ_same (w1 p) (w2 p) (w1 (p.set i c)) (w2 (p.set i c)) _ d1 (by omega) (by omega) fun h0 => absurd h0 hne).1 e)
theorem turned_none (p : List UInt8) (i : Nat) (c : UInt8) (h : i < (p ++ tailL p).length) (hc : c ≠ (p ++ tailL p)[i]) : nextL (putN p.length ++ (p ++ tailL p).set i c) = none := by
  cases hq : nextL (putN p.length ++ (p ++ tailL p).set i c) with
  | none => rfl
  | some q =>
    exfalso
    obtain ⟨_, r, e⟩ := nextL_iff.1 hq
    unfold frameL putT at e
    rw [List.append_assoc, List.append_assoc] at e
    obtain ⟨h1, h2⟩ := putN_inj e
    have hr : r = [] := List.eq_nil_of_length_eq_zero (by
      have := congrArg List.length h2
      simp only [List.length_append, List.length_set, tailL_length] at this; omega)
    subst hr
    rw [List.append_nil] at h2
    by_cases hi : i < p.length
    · rw [List.set_append_left _ _ hi] at h2
      obtain ⟨rfl, h3⟩ := List.append_inj h2 (by simpa using h1)
      rw [List.getElem_append_left hi] at hc
      exact sum_set p i c hi hc (tailL_sum h3)
    · have hi2 : p.length ≤ i := Nat.le_of_not_lt hi
      rw [List.set_append_right _ _ hi2] at h2
      obtain ⟨rfl, h3⟩ := List.append_inj h2 h1
      have hlt : i - q.length < (tailL q).length := by rw [List.length_append] at h; omega
      have h4 := congrArg (fun l : List UInt8 => l[i - q.length]?) h3
      simp only [List.getElem?_set_self hlt] at h4
      rw [List.getElem_append_right hi2] at hc
      rw [List.getElem?_eq_getElem hlt] at h4
      exact hc (Option.some.inj h4).symm
/-- Of two frames, a byte of the second one's payload or behind it another one: the first one is found, no other one. -/
theorem turned_whole (a p : List UInt8) (i : Nat) (c : UInt8) (ha : a.length ≤ MF) (h : i < (p ++ tailL p).length) (hc : c ≠ (p ++ tailL p)[i]) : IsWhole (frameL a ++ (putN p.length ++ (p ++ tailL p).set i c)) [a] :=
  IsWhole.join (a := [a]) (d := []) (fun y hy => by rw [List.mem_singleton.1 hy]; exact ha) (IsWhole.nil (turned_none p i c h hc)) |> fun h => by simpa [frs_cons, frs_nil] using h
end Go.Proofs.YtmknbakfjhjfmaaGreatDoor.frm
