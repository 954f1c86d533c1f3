/- Plain mathematics on texts as lists of bytes: the lines of a text and what lines are joined to. Nothing of the program is used. -/
namespace Go.Proofs.Ytdbeedhedjhamaa

/-- A text's lines, and of each whether its end stands behind it. -/
def lns : List UInt8 → List (List UInt8 × Bool)
  | [] => []
  | c :: r => if c = 10 then ([], true) :: lns r else
    match lns r with
    | [] => [([c], false)]
    | x :: t => (c :: x.1, x.2) :: t

/-- What stands ahead of the first byte 10, what stands behind it, and whether there is one. -/
def cut10 : List UInt8 → List UInt8 × List UInt8 × Bool
  | [] => ([], [], false)
  | c :: r => if c = 10 then ([], r, true) else (c :: (cut10 r).1, (cut10 r).2.1, (cut10 r).2.2)

theorem lns_cut : ∀ (r : List UInt8), r ≠ [] → lns r = ((cut10 r).1, (cut10 r).2.2) :: lns (cut10 r).2.1
  | [], h => absurd rfl h
  | c :: r, _ => by
    by_cases hc : c = 10
    · simp [lns, cut10, hc]
    · simp only [lns, cut10, if_neg hc]
      cases r with
      | nil => simp [lns, cut10]
      | cons d r => rw [lns_cut (d :: r) (by simp)]

theorem cut10_len : ∀ (r : List UInt8), (cut10 r).2.1.length + (cut10 r).1.length ≤ r.length
  | [] => by simp [cut10]
  | c :: r => by
    by_cases hc : c = 10
    · simp [cut10, hc]
    · simp only [cut10, if_neg hc, List.length_cons]; have := cut10_len r; omega

theorem cut10_less (r : List UInt8) (h : r ≠ []) : (cut10 r).2.1.length < r.length := by
  cases r with
  | nil => exact absurd rfl h
  | cons c r =>
    by_cases hc : c = 10
    · simp [cut10, hc]
    · simp only [cut10, if_neg hc, List.length_cons]; have := cut10_len r; omega


theorem cut10_none : ∀ (r : List UInt8), (10 : UInt8) ∉ r → cut10 r = (r, [], false)
  | [], _ => rfl
  | c :: r, h => by
    have hc : ¬ c = 10 := fun e => h (by simp [e])
    simp only [cut10, if_neg hc, cut10_none r (fun e => h (by simp [e]))]

theorem cut10_some : ∀ (r : List UInt8) (o : Nat), r[o]? = some 10 → (∀ k, k < o → r[k]? ≠ some 10) → cut10 r = (r.take o, r.drop (o + 1), true)
  | [], o, h, _ => by simp at h
  | c :: r, o, h, hk => by
    cases o with
    | zero =>
      have hc : c = 10 := by simpa using h
      simp [cut10, hc]
    | succ o =>
      have hc : ¬ c = 10 := fun e => hk 0 (by omega) (by simp [e])
      have ih := cut10_some r o (by simpa using h) (fun k hko => by have := hk (k + 1) (by omega); simpa using this)
      simp [cut10, if_neg hc, ih]

/-- Has a text an end, or nothing? -/
def endedL (t : List UInt8) : Bool := ((lns t).getLast?.map (·.2)).getD true
def linesL (t : List UInt8) : List (List UInt8) := (lns t).map (·.1)
def joinL : List (List UInt8) → List UInt8
  | [] => []
  | x :: r => x ++ 10 :: joinL r

theorem lns_len (t : List UInt8) : (lns t).length ≤ t.length := by
  induction t with
  | nil => simp [lns]
  | cons c r ih =>
    by_cases hc : c = 10
    · simp [lns, hc]; omega
    · simp only [lns, if_neg hc]
      cases h : lns r with
      | nil => simp
      | cons x t => simp [h] at ih ⊢; omega

theorem lns_line_len {t : List UInt8} {x : List UInt8 × Bool} (h : x ∈ lns t) : x.1.length ≤ t.length := by
  induction t generalizing x with
  | nil => simp [lns] at h
  | cons c r ih =>
    by_cases hc : c = 10
    · simp only [lns, if_pos hc, List.mem_cons] at h
      rcases h with rfl | h
      · simp
      · have := ih h; simp; omega
    · simp only [lns, if_neg hc] at h
      cases hr : lns r with
      | nil => simp [hr] at h; subst h; simp
      | cons y t =>
        simp only [hr, List.mem_cons] at h
        rcases h with rfl | h
        · have := ih (x := y) (by simp [hr]); simp; omega
        · have := ih (x := x) (by simp [hr, h]); simp; omega

theorem lns_clean {t : List UInt8} {x : List UInt8 × Bool} (h : x ∈ lns t) : (10 : UInt8) ∉ x.1 := by
  induction t generalizing x with
  | nil => simp [lns] at h
  | cons c r ih =>
    by_cases hc : c = 10
    · simp only [lns, if_pos hc, List.mem_cons] at h
      rcases h with rfl | h
      · simp
      · exact ih h
    · simp only [lns, if_neg hc] at h
      cases hr : lns r with
      | nil =>
        simp [hr] at h; subst h
        simpa using fun h => hc h.symm
      | cons y t =>
        simp only [hr, List.mem_cons] at h
        rcases h with rfl | h
        · have := ih (x := y) (by simp [hr]); simp [this]; exact fun h => hc h.symm
        · exact ih (x := x) (by simp [hr, h])

/-- All lines but the last one are ended. -/
theorem lns_ended {t : List UInt8} : ∀ x ∈ (lns t).dropLast, x.2 = true := by
  induction t with
  | nil => simp [lns]
  | cons c r ih =>
    by_cases hc : c = 10
    · simp only [lns, if_pos hc]
      cases hr : lns r with
      | nil => simp
      | cons y t =>
        intro x hx
        rw [List.dropLast_cons_of_ne_nil (by simp)] at hx
        simp only [List.mem_cons] at hx
        rcases hx with rfl | hx
        · rfl
        · exact ih x (by rw [hr]; exact hx)
    · simp only [lns, if_neg hc]
      cases hr : lns r with
      | nil => simp
      | cons y t =>
        intro x hx
        cases t with
        | nil => simp at hx
        | cons z t =>
          rw [List.dropLast_cons_of_ne_nil (by simp)] at hx
          simp only [List.mem_cons] at hx
          rcases hx with rfl | hx
          · exact ih y (by rw [hr]; simp)
          · exact ih x (by rw [hr, List.dropLast_cons_of_ne_nil (by simp)]; simp only [List.mem_cons]; exact .inr hx)

/-- A line that lacks its end is not empty. -/
theorem lns_lacks {t : List UInt8} {x : List UInt8 × Bool} (h : x ∈ lns t) (hx : x.2 = false) : x.1 ≠ [] := by
  induction t generalizing x with
  | nil => simp [lns] at h
  | cons c r ih =>
    by_cases hc : c = 10
    · simp only [lns, if_pos hc, List.mem_cons] at h
      rcases h with rfl | h
      · simp at hx
      · exact ih h hx
    · simp only [lns, if_neg hc] at h
      cases hr : lns r with
      | nil => simp [hr] at h; subst h; simp
      | cons y t =>
        simp only [hr, List.mem_cons] at h
        rcases h with rfl | h
        · simp
        · exact ih (x := x) (by simp [hr, h]) hx

/-- A text: its lines, each with a byte 10 behind it if it is ended. -/
theorem lns_text (t : List UInt8) : (lns t).flatMap (fun x => x.1 ++ if x.2 then [10] else []) = t := by
  induction t with
  | nil => simp [lns]
  | cons c r ih =>
    by_cases hc : c = 10
    · simp only [lns, if_pos hc, List.flatMap_cons, ih]; simp [hc]
    · simp only [lns, if_neg hc]
      cases hr : lns r with
      | nil => rw [hr] at ih; simp at ih; simp [ih]
      | cons y t => rw [hr] at ih; simp only [List.flatMap_cons] at ih ⊢; simp [← ih]

/-- Text a that has an end or is empty, text b behind it. -/
theorem lns_append : ∀ (a b : List UInt8), endedL a = true → lns (a ++ b) = lns a ++ lns b
  | [], b, _ => by simp [lns]
  | c :: r, b, h => by
    by_cases hc : c = 10
    · have h' : endedL r = true := by
        unfold endedL at h ⊢
        simp only [lns, if_pos hc] at h
        cases hr : lns r with
        | nil => rfl
        | cons y t => rw [hr] at h; simpa [List.getLast?_cons] using h
      simp only [lns, if_pos hc, List.cons_append]
      rw [lns_append r b h']
    · have h' : endedL r = true ∧ lns r ≠ [] := by
        unfold endedL at h ⊢
        simp only [lns, if_neg hc] at h
        cases hr : lns r with
        | nil => rw [hr] at h; simp at h
        | cons y t =>
          rw [hr] at h
          refine ⟨?_, by simp⟩
          cases t with
          | nil => simpa using h
          | cons z t => simpa [List.getLast?_cons] using h
      simp only [lns, if_neg hc, List.cons_append]
      rw [lns_append r b h'.1]
      cases hr : lns r with
      | nil => exact absurd hr h'.2
      | cons y t => simp

theorem endedL_append (a b : List UInt8) (h : endedL a = true) : endedL (a ++ b) = endedL b := by
  unfold endedL
  rw [lns_append a b h]
  cases hb : lns b with
  | nil => simpa [endedL] using h
  | cons y t => simp [List.getLast?_append, List.getLast?_cons]

theorem lns_join : ∀ (l : List (List UInt8)), (∀ x ∈ l, (10 : UInt8) ∉ x) → lns (joinL l) = l.map fun x => (x, true)
  | [], _ => by simp [joinL, lns]
  | x :: r, h => by
    have h1 : (10 : UInt8) ∉ x := h x (by simp)
    have ih := lns_join r (fun y hy => h y (by simp [hy]))
    have key : ∀ (x : List UInt8), (10 : UInt8) ∉ x → lns (x ++ 10 :: joinL r) = (x, true) :: lns (joinL r) := by
      intro x hx
      induction x with
      | nil => simp [lns]
      | cons c y ihy =>
        have hc : ¬ c = 10 := fun e => hx (by simp [e])
        have hy : (10 : UInt8) ∉ y := fun e => hx (by simp [e])
        simp only [List.cons_append, lns, if_neg hc, ihy hy]
    simp only [joinL, key x h1, ih, List.map_cons]

theorem joinL_flat (l : List (List UInt8)) : joinL l = l.flatMap (· ++ [10]) := by
  induction l with
  | nil => rfl
  | cons x r ih => simp [joinL, ih]

theorem joinL_snoc (l : List (List UInt8)) (x : List UInt8) : joinL (l ++ [x]) = joinL l ++ x ++ [10] := by
  simp [joinL_flat]

end Go.Proofs.Ytdbeedhedjhamaa
