/- Lines in rows: plain mathematics. Nothing of the program is used. -/
namespace Go.Proofs.Ytmnehlheflfpaaa.wrp
set_option linter.unusedVariables false
set_option linter.unusedSimpArgs false
set_option linter.unnecessarySimpa false
set_option linter.unusedSectionVars false

/-- How a byte is shown, behind n cells. -/
def ofL (b : UInt8) (n : Nat) : List UInt8 :=
  if b.toNat = 9 then List.replicate (8 - n % 8) 32
  else if b.toNat < 32 then [94, b + 64]
  else if b.toNat = 127 then [94, 63]
  else if 127 < b.toNat then [92, 48 + b / 64, 48 + b / 8 % 8, 48 + b % 8]
  else [b]
def cellsL (l : List UInt8) : List UInt8 := l.foldl (fun s b => s ++ ofL b s.length) []
/-- How many cells stand ahead of the k-th byte. -/
def atL (l : List UInt8) (k : Nat) : Nat := (cellsL (l.take k)).length
def placesL (l : List UInt8) : List Nat := (List.range (l.length + 1)).map (atL l)

theorem ofL_len (b : UInt8) (n : Nat) : 1 ≤ (ofL b n).length ∧ (ofL b n).length ≤ 8 := by
  unfold ofL
  split
  · rw [List.length_replicate]; omega
  split
  · exact ⟨by simp, by simp⟩
  split
  · exact ⟨by simp, by simp⟩
  split
  · exact ⟨by simp, by simp⟩
  · exact ⟨by simp, by simp⟩
theorem ofL_ne (b : UInt8) (n : Nat) : ofL b n ≠ [] := fun h => by have := (ofL_len b n).1; rw [h] at this; simp at this
theorem cells_nil : cellsL [] = [] := rfl
theorem cells_snoc (l : List UInt8) (b : UInt8) : cellsL (l ++ [b]) = cellsL l ++ ofL b (cellsL l).length := by
  unfold cellsL; rw [List.foldl_append]; rfl
theorem cells_take (l : List UInt8) (k : Nat) (b : UInt8) (h : l[k]? = some b) : cellsL (l.take (k + 1)) = cellsL (l.take k) ++ ofL b (atL l k) := by
  obtain ⟨hk, rfl⟩ := List.getElem?_eq_some_iff.1 h
  rw [List.take_succ_eq_append_getElem hk, cells_snoc]; rfl
theorem at_zero (l : List UInt8) : atL l 0 = 0 := rfl
theorem at_succ (l : List UInt8) (k : Nat) (b : UInt8) (h : l[k]? = some b) : atL l (k + 1) = atL l k + (ofL b (atL l k)).length := by
  unfold atL; rw [cells_take l k b h, List.length_append]; rfl
theorem at_all (l : List UInt8) : atL l l.length = (cellsL l).length := by unfold atL; rw [List.take_length]
theorem fold_pre (m s : List UInt8) : s <+: m.foldl (fun s b => s ++ ofL b s.length) s := by
  induction m generalizing s with
  | nil => exact List.prefix_rfl
  | cons b m ih => rw [List.foldl_cons]; exact (List.prefix_append _ _).trans (ih _)
theorem cells_app (l m : List UInt8) : cellsL l <+: cellsL (l ++ m) := by
  unfold cellsL; rw [List.foldl_append]; exact fold_pre m _
theorem cells_take_pre (l : List UInt8) (k : Nat) : cellsL (l.take k) <+: cellsL l := by
  have := cells_app (l.take k) (l.drop k)
  rwa [List.take_append_drop] at this
theorem at_le (l : List UInt8) (k : Nat) : atL l k ≤ (cellsL l).length := (cells_take_pre l k).length_le
theorem cells_pre_take (l : List UInt8) (k : Nat) : (cellsL l).take (atL l k) = cellsL (l.take k) := by
  obtain ⟨t, ht⟩ := cells_take_pre l k
  rw [← ht]; unfold atL; exact List.take_left
theorem at_app (a b : List UInt8) (k : Nat) (h : k ≤ a.length) : atL (a ++ b) k = atL a k := by
  unfold atL; rw [List.take_append_of_le_length h]
theorem at_bound (l : List UInt8) (k : Nat) (h : k ≤ l.length) : k ≤ atL l k ∧ atL l k ≤ 8 * k := by
  induction k with
  | zero => exact ⟨by rw [at_zero]; omega, by rw [at_zero]; omega⟩
  | succ k ih =>
    have h1 := ih (by omega)
    have h2 := at_succ l k _ (List.getElem?_eq_getElem (by omega))
    have h3 := ofL_len (l[k]'(by omega)) (atL l k)
    omega
theorem cells_bound (l : List UInt8) : l.length ≤ (cellsL l).length ∧ (cellsL l).length ≤ 8 * l.length := by
  have := at_bound l l.length (Nat.le_refl _)
  rwa [at_all] at this
theorem at_mono (l : List UInt8) (i j : Nat) (h : i ≤ j) : atL l i ≤ atL l j := by
  have : l.take i = (l.take j).take i := by rw [List.take_take, Nat.min_eq_left h]
  unfold atL; rw [this]; exact (cells_take_pre (l.take j) i).length_le
theorem at_lt (l : List UInt8) (k : Nat) (h : k < l.length) : atL l k < (cellsL l).length := by
  have h2 := at_succ l k _ (List.getElem?_eq_getElem h)
  have h3 := ofL_len (l[k]'h) (atL l k)
  have := at_le l (k + 1)
  omega
/-- The cells of the k-th byte. -/
theorem cells_at (l : List UInt8) (k : Nat) (b : UInt8) (h : l[k]? = some b) (j : Nat) (hj : j < (ofL b (atL l k)).length) : (cellsL l)[atL l k + j]? = (ofL b (atL l k))[j]? := by
  obtain ⟨t, ht⟩ := cells_take_pre l (k + 1)
  rw [← ht, cells_take l k b h, List.append_assoc]
  have e : (cellsL (l.take k)).length = atL l k := rfl
  rw [List.getElem?_append_right (by omega), e, Nat.add_sub_cancel_left, List.getElem?_append_left hj]
theorem ofL_may (b : UInt8) (n : Nat) : ∀ c ∈ ofL b n, 32 ≤ c.toNat ∧ c.toNat ≤ 126 := by
  have hb := b.toNat_lt
  unfold ofL
  split
  · intro c hc; rw [List.mem_replicate] at hc; rw [hc.2]; decide
  split
  · intro c hc
    simp only [List.mem_cons, List.not_mem_nil, or_false] at hc
    rcases hc with rfl | rfl
    · decide
    · rw [UInt8.toNat_add]; show 32 ≤ (b.toNat + 64) % 256 ∧ (b.toNat + 64) % 256 ≤ 126; omega
  split
  · intro c hc
    simp only [List.mem_cons, List.not_mem_nil, or_false] at hc
    rcases hc with rfl | rfl <;> decide
  split
  · intro c hc
    simp only [List.mem_cons, List.not_mem_nil, or_false] at hc
    rcases hc with rfl | rfl | rfl | rfl
    · decide
    · rw [UInt8.toNat_add, UInt8.toNat_div]; show 32 ≤ (48 + b.toNat / 64) % 256 ∧ (48 + b.toNat / 64) % 256 ≤ 126; omega
    · rw [UInt8.toNat_add, UInt8.toNat_mod, UInt8.toNat_div]; show 32 ≤ (48 + b.toNat / 8 % 8) % 256 ∧ (48 + b.toNat / 8 % 8) % 256 ≤ 126; omega
    · rw [UInt8.toNat_add, UInt8.toNat_mod]; show 32 ≤ (48 + b.toNat % 8) % 256 ∧ (48 + b.toNat % 8) % 256 ≤ 126; omega
  · intro c hc
    simp only [List.mem_cons, List.not_mem_nil, or_false] at hc
    subst hc; omega
theorem fold_may (m s : List UInt8) (hs : ∀ c ∈ s, 32 ≤ c.toNat ∧ c.toNat ≤ 126) : ∀ c ∈ m.foldl (fun s b => s ++ ofL b s.length) s, 32 ≤ c.toNat ∧ c.toNat ≤ 126 := by
  induction m generalizing s with
  | nil => exact hs
  | cons b m ih =>
    rw [List.foldl_cons]
    refine ih _ fun c hc => ?_
    rcases List.mem_append.1 hc with h | h
    · exact hs c h
    · exact ofL_may _ _ c h
theorem cells_may (l : List UInt8) : ∀ c ∈ cellsL l, 32 ≤ c.toNat ∧ c.toNat ≤ 126 := fold_may l [] (fun c hc => by simp at hc)

/-! ## Rows -/
/-- How many rows n cells have, in c columns. -/
def rowsN (n c : Nat) : Nat := (n - 1) / c + 1
/-- The k-th row. -/
def rowL (s : List UInt8) (c k : Nat) : List UInt8 := (s.drop (k * c)).take c
theorem rowL_len (s : List UInt8) (c k : Nat) : (rowL s c k).length = min c (s.length - k * c) := by
  unfold rowL; rw [List.length_take, List.length_drop]
theorem row_in (n c k : Nat) (hc : 0 < c) : k < rowsN n c ↔ k * c ≤ n - 1 := by
  unfold rowsN
  rw [Nat.lt_succ_iff, Nat.le_div_iff_mul_le hc]
theorem rowL_out (s : List UInt8) (c k : Nat) (hc : 0 < c) (h : rowsN s.length c ≤ k) : rowL s c k = [] := by
  have h1 : ¬ k * c ≤ s.length - 1 := fun h2 => by have := (row_in s.length c k hc).2 h2; omega
  unfold rowL
  rw [List.drop_eq_nil_of_le (by omega), List.take_nil]
theorem rows_join (s : List UInt8) (c k : Nat) : s.take ((k + 1) * c) = s.take (k * c) ++ rowL s c k := by
  unfold rowL
  rw [Nat.add_mul, Nat.one_mul, List.take_add]
theorem rows_all (s : List UInt8) (c : Nat) (hc : 0 < c) : s.take (rowsN s.length c * c) = s := by
  apply List.take_of_length_le
  have h : ¬ rowsN s.length c < rowsN s.length c := Nat.lt_irrefl _
  rw [row_in _ _ _ hc] at h
  omega
theorem rowL_full (s : List UInt8) (c k : Nat) (hc : 0 < c) (h : k + 1 < rowsN s.length c) : (rowL s c k).length = c := by
  rw [rowL_len]
  have h1 := (row_in s.length c (k + 1) hc).1 h
  rw [Nat.add_mul, Nat.one_mul] at h1
  omega
theorem rowL_pos (s : List UInt8) (c k : Nat) (hc : 0 < c) (h : k < rowsN s.length c) (hn : 1 < rowsN s.length c) : 0 < (rowL s c k).length := by
  rw [rowL_len]
  have h1 := (row_in s.length c k hc).1 h
  have h2 := (row_in s.length c 1 hc).1 hn
  omega
theorem rowsN_zero (c : Nat) : rowsN 0 c = 1 := by unfold rowsN; rw [Nat.zero_sub, Nat.zero_div]
theorem rowsN_step (k c : Nat) (hc : 0 < c) : rowsN (k + 1) c = rowsN k c + (if 0 < k ∧ k % c = 0 then 1 else 0) := by
  unfold rowsN
  rcases k with _ | m
  · simp
  · rw [Nat.add_sub_cancel, Nat.add_sub_cancel, Nat.succ_div]
    by_cases h : c ∣ m + 1
    · rw [if_pos h, if_pos ⟨by omega, Nat.mod_eq_zero_of_dvd h⟩]
    · rw [if_neg h, if_neg (fun h2 => h (Nat.dvd_of_mod_eq_zero h2.2))]
theorem rowL_nil (c k : Nat) : rowL [] c k = [] := by unfold rowL; rw [List.drop_nil, List.take_nil]
/-- One byte more. -/
theorem rowL_step (s : List UInt8) (c k i : Nat) (x : UInt8) (hc : 0 < c) (hx : s[i]? = some x) : rowL (s.take (i + 1)) c k = rowL (s.take i) c k ++ (if i / c = k then [x] else []) := by
  obtain ⟨hi, rfl⟩ := List.getElem?_eq_some_iff.1 hx
  have hl : (s.take i).length = i := by rw [List.length_take]; omega
  unfold rowL
  rw [List.take_succ_eq_append_getElem hi]
  by_cases h1 : i < k * c
  · have e : ¬ i / c = k := by rw [Nat.div_eq_iff hc]; omega
    rw [if_neg e, List.append_nil, List.drop_eq_nil_of_le (by rw [List.length_append, hl]; simp; omega), List.drop_eq_nil_of_le (by omega)]
  · rw [List.drop_append_of_le_length (by omega)]
    have hd : ((s.take i).drop (k * c)).length = i - k * c := by rw [List.length_drop, hl]
    by_cases h2 : i < k * c + c
    · have e : i / c = k := by rw [Nat.div_eq_iff hc]; omega
      generalize (s.take i).drop (k * c) = T at hd
      rw [if_pos e]
      have e2 : (T ++ [s[i]]).take c = T ++ [s[i]] := List.take_of_length_le (by rw [List.length_append, hd]; simp; omega)
      have e3 : T.take c = T := List.take_of_length_le (by omega)
      rw [e2, e3]
    · have e : ¬ i / c = k := by rw [Nat.div_eq_iff hc]; omega
      rw [if_neg e, List.append_nil, List.take_append_of_le_length (by omega)]
/-- Where the i-th byte's place is; at the end of a full row it is its last cell. -/
def placeL (l : List UInt8) (c : Nat) (i : Int) : Nat :=
  if (l.length : Int) ≤ i ∧ 0 < (cellsL l).length ∧ (cellsL l).length % c = 0 then (cellsL l).length - 1 else atL l (min (max i 0) l.length).toNat
end Go.Proofs.Ytmnehlheflfpaaa.wrp
