/- Frames on plain lists of bytes: lines' ends in a frame, a length that is off by one, a byte that is another one. -/
import Derived.Test.YtljpclfeogiohaaGreatDoorFrmPure
namespace Go.Proofs.YtljpclfeogiohaaGreatDoor.frm
open Go.Proofs.YtljpclfeogiohaaGreatDoor.num Go.Proofs.YtljpclfeogiohaaGreatDoor.sum Go.Lib

theorem hexD_ne10 (d : Nat) (h : d < 16) : hexD d ≠ 10 := by
  intro e
  have e2 := congrArg UInt8.toNat e
  rcases Nat.lt_or_ge d 10 with h1 | h1
  · rw [hexD_lt h1] at e2; simp at e2; omega
  · rw [hexD_ge h1 h] at e2; simp at e2; omega
theorem hexD_inj {d e : Nat} (h : d < 16) (h' : e < 16) (he : hexD d = hexD e) : d = e := by
  have e2 := congrArg UInt8.toNat he
  rcases Nat.lt_or_ge d 10 with h1 | h1 <;> rcases Nat.lt_or_ge e 10 with h2 | h2
  · rw [hexD_lt h1, hexD_lt h2] at e2; omega
  · rw [hexD_lt h1, hexD_ge h2 h'] at e2; omega
  · rw [hexD_ge h1 h, hexD_lt h2] at e2; omega
  · rw [hexD_ge h1 h, hexD_ge h2 h'] at e2; omega
theorem digs_ne10 (n x : Nat) : ∀ c ∈ digs n x, c ≠ 10 := by
  induction n generalizing x with
  | zero => intro c h; cases h
  | succ n ih =>
    intro c h
    rw [digs] at h
    rcases List.mem_append.1 h with h | h
    · exact ih _ c h
    · rw [List.mem_singleton.1 h]; exact hexD_ne10 _ (Nat.mod_lt _ (by decide))
theorem digs_inj (n x y : Nat) (hx : x < 16 ^ n) (hy : y < 16 ^ n) (h : digs n x = digs n y) : x = y := by
  induction n generalizing x y with
  | zero => simp at hx hy; omega
  | succ n ih =>
    rw [digs, digs] at h
    obtain ⟨h1, h2⟩ := List.append_inj' h rfl
    have e1 := ih _ _ (by rw [Nat.pow_succ] at hx; omega) (by rw [Nat.pow_succ] at hy; omega) h1
    have e2 := hexD_inj (Nat.mod_lt _ (by decide)) (Nat.mod_lt _ (by decide)) (List.cons.inj h2).1
    omega
theorem hexN_inj {x y : Nat} (hx : x < 4294967296) (hy : y < 4294967296) (h : hexN x = hexN y) : x = y := digs_inj 8 x y hx hy h
theorem tailL_sum {p q : List UInt8} (h : tailL p = tailL q) : sumN p = sumN q := by
  unfold tailL at h
  exact hexN_inj (sumN_lt p) (sumN_lt q) (List.append_inj' h rfl).1

/-! ## Lines' ends -/
theorem count_none {l : List UInt8} (h : ∀ c ∈ l, c ≠ 10) : l.count 10 = 0 := List.count_eq_zero.2 fun hm => h 10 hm rfl
theorem putN_count (n : Nat) : (putN n).count 10 = 0 := by
  refine count_none fun c hc e => ?_
  unfold putN at hc
  subst e
  rcases List.mem_append.1 hc with hc | hc
  · have := dec_dig n _ hc; exact absurd this (by decide)
  · exact absurd (List.mem_singleton.1 hc) (by decide)
theorem tailL_count (p : List UInt8) : (tailL p).count 10 = 1 := by
  unfold tailL
  rw [List.count_append, count_none (l := hexN (sumN p)) (digs_ne10 8 _)]
  rfl
theorem frameL_count (p : List UInt8) : (frameL p).count 10 = p.count 10 + 1 := by
  unfold frameL putT
  rw [List.count_append, List.count_append, putN_count, tailL_count]; omega
theorem frameL_last (p : List UInt8) : (frameL p)[(frameL p).length - 1]? = some 10 := by
  unfold frameL tailL
  rw [← List.append_assoc, List.length_append, List.getElem?_append_right (by simp)]
  simp

/-! ## A length that is off by one -/
theorem longer_none (p : List UInt8) : nextL (putN (p.length + 1) ++ (p ++ tailL p)) = none := by
  cases hq : nextL (putN (p.length + 1) ++ (p ++ tailL p)) with
  | none => rfl
  | some q =>
    obtain ⟨_, r, e⟩ := nextL_iff.1 hq
    unfold frameL putT at e
    rw [List.append_assoc, List.append_assoc] at e
    obtain ⟨h1, h2⟩ := putN_inj e
    have h3 := congrArg List.length h2
    simp only [List.length_append, tailL_length] at h3
    omega
theorem shorter_none (p : List UInt8) (h : p ≠ []) : nextL (putN (p.length - 1) ++ (p ++ tailL p)) = none := by
  cases hq : nextL (putN (p.length - 1) ++ (p ++ tailL p)) with
  | none => rfl
  | some q =>
    exfalso
    obtain ⟨_, r, e⟩ := nextL_iff.1 hq
    unfold frameL putT at e
    rw [List.append_assoc, List.append_assoc] at e
    obtain ⟨h1, h2⟩ := putN_inj e
    obtain ⟨p', c, rfl⟩ : ∃ p' c, p = p' ++ [c] := ⟨p.dropLast, p.getLast h, (List.dropLast_concat_getLast h).symm⟩
    rw [List.append_assoc] at h2
    obtain ⟨rfl, h3⟩ := List.append_inj h2 (by simpa using h1)
    unfold tailL at h3
    have h4 := congrArg (fun l : List UInt8 => l[8]?) h3
    have h5 : ((hexN (sumN q) ++ [10]) ++ r)[8]? = some 10 := by
      rw [List.getElem?_append_left (by simp [hexN_length]), List.getElem?_append_right (by rw [hexN_length]; exact Nat.le_refl _), hexN_length]; rfl
    have h6 : ([c] ++ (hexN (sumN (q ++ [c])) ++ [10]))[8]? = (hexN (sumN (q ++ [c])))[7]? := by
      rw [List.getElem?_append_right (by simp), List.getElem?_append_left (by simp [hexN_length])]; rfl
    have h7 : (hexN (sumN (q ++ [c])))[7]? = some 10 := by rw [← h6, ← h5]; exact h4.symm
    exact digs_ne10 8 _ 10 (List.mem_of_getElem? h7) rfl

/-! ## A byte that is another one -/
theorem sum_set (p : List UInt8) (i : Nat) (c : UInt8) (h : i < p.length) (hc : c ≠ p[i]) : sumN (p.set i c) ≠ sumN p := by
  have e1 : p = p.take i ++ p[i] :: p.drop (i + 1) := by rw [← List.drop_eq_getElem_cons h, List.take_append_drop]
  have e2 : p.set i c = p.take i ++ c :: p.drop (i + 1) := List.set_eq_take_append_cons_drop.trans (by rw [if_pos h])
  have d1 := w1_differ (p.take i) (p.drop (i + 1)) p[i] c
  have d2 := w2_differ (p.take i) (p.drop (i + 1)) p[i] c
  rw [← e1, ← e2] at d1 d2
  have hb := c.toNat_lt
  have hd := (p[i]).toNat_lt
  have hne : (c.toNat : Int) - (p[i]).toNat ≠ 0 := fun e => hc (UInt8.toNat_inj.1 (by omega))
  intro e
  unfold sumN at e
  exact hne ((differ_same (w1 p) (w2 p) (w1 (p.set i c)) (w2 (p.set i c)) _ d1 (by omega) (by omega) fun h0 => absurd h0 hne).1 e)
theorem turned_none (p : List UInt8) (i : Nat) (c : UInt8) (h : i < (p ++ tailL p).length) (hc : c ≠ (p ++ tailL p)[i]) : nextL (putN p.length ++ (p ++ tailL p).set i c) = none := by
  cases hq : nextL (putN p.length ++ (p ++ tailL p).set i c) with
  | none => rfl
  | some q =>
    exfalso
    obtain ⟨_, r, e⟩ := nextL_iff.1 hq
    unfold frameL putT at e
    rw [List.append_assoc, List.append_assoc] at e
    obtain ⟨h1, h2⟩ := putN_inj e
    have hr : r = [] := List.eq_nil_of_length_eq_zero (by
      have := congrArg List.length h2
      simp only [List.length_append, List.length_set, tailL_length] at this; omega)
    subst hr
    rw [List.append_nil] at h2
    by_cases hi : i < p.length
    · rw [List.set_append_left _ _ hi] at h2
      obtain ⟨rfl, h3⟩ := List.append_inj h2 (by simpa using h1)
      rw [List.getElem_append_left hi] at hc
      exact sum_set p i c hi hc (tailL_sum h3)
    · have hi2 : p.length ≤ i := Nat.le_of_not_lt hi
      rw [List.set_append_right _ _ hi2] at h2
      obtain ⟨rfl, h3⟩ := List.append_inj h2 h1
      have hlt : i - q.length < (tailL q).length := by rw [List.length_append] at h; omega
      have h4 := congrArg (fun l : List UInt8 => l[i - q.length]?) h3
      simp only [List.getElem?_set_self hlt] at h4
      rw [List.getElem_append_right hi2] at hc
      rw [List.getElem?_eq_getElem hlt] at h4
      exact hc (Option.some.inj h4).symm
/-- Of two frames, a byte of the second one's payload or behind it another one: the first one is found, no other one. -/
theorem turned_whole (a p : List UInt8) (i : Nat) (c : UInt8) (ha : a.length ≤ MF) (h : i < (p ++ tailL p).length) (hc : c ≠ (p ++ tailL p)[i]) : IsWhole (frameL a ++ (putN p.length ++ (p ++ tailL p).set i c)) [a] :=
  IsWhole.join (a := [a]) (d := []) (fun y hy => by rw [List.mem_singleton.1 hy]; exact ha) (IsWhole.nil (turned_none p i c h hc)) |> fun h => by simpa [frs_cons, frs_nil] using h
end Go.Proofs.YtljpclfeogiohaaGreatDoor.frm
