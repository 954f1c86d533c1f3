/- Grids: plain facts: a grid as numbers and rows of bytes. -/
import GoSem.Claim
namespace Go.Proofs.Yteekihhngjbjgaa.grd
set_option linter.unusedVariables false
set_option linter.unusedSimpArgs false
set_option linter.unnecessarySimpa false

/-- A grid: its numbers, and its rows of bytes. -/
structure Gd where
  rows : Int
  cols : Int
  cells : List (List UInt8)
  row : Int
  col : Int

def okB (c : UInt8) : Bool := decide (32 ≤ c.toNat ∧ c.toNat ≤ 126)
def sized (r c : Int) : Bool := decide (2 ≤ r ∧ r ≤ 60 ∧ 8 ≤ c ∧ c ≤ 132)
def hasB (R C r c : Int) : Bool := decide (0 ≤ r ∧ r < R ∧ 0 ≤ c ∧ c < C)
def okRow (m : Int) (l : List UInt8) : Bool := decide ((l.length : Int) = m) && l.all okB
def may (g : Gd) : Bool := sized g.rows g.cols && decide ((g.cells.length : Int) = g.rows) && hasB g.rows g.cols g.row g.col && g.cells.all (okRow g.cols)
def setAt (ls : List (List UInt8)) (r c : Nat) (b : UInt8) : List (List UInt8) := ls.set r ((ls.getD r []).set c b)
def putOk (g : Gd) (r c : Int) (b : UInt8) : Bool := may g && hasB g.rows g.cols r c && okB b
def putC (g : Gd) (r c : Int) (b : UInt8) : List (List UInt8) := if putOk g r c b then setAt g.cells r.toNat c.toNat b else g.cells
def putG (g : Gd) (r c : Int) (b : UInt8) : Gd := { g with cells := putC g r c b }
def blankC (n m : Nat) : List (List UInt8) := List.replicate n (List.replicate m 32)
def blankG (n m : Nat) : Gd := ⟨n, m, blankC n m, 0, 0⟩
def at' (ls : List (List UInt8)) (i k : Nat) : UInt8 := (ls.getD i []).getD k 0

theorem sized_iff {r c : Int} : sized r c = true ↔ 2 ≤ r ∧ r ≤ 60 ∧ 8 ≤ c ∧ c ≤ 132 := by unfold sized; simp
theorem has_iff {R C r c : Int} : hasB R C r c = true ↔ 0 ≤ r ∧ r < R ∧ 0 ≤ c ∧ c < C := by unfold hasB; simp
theorem okB_iff {c : UInt8} : okB c = true ↔ 32 ≤ c.toNat ∧ c.toNat ≤ 126 := by unfold okB; simp
theorem okRow_iff {m : Int} {l : List UInt8} : okRow m l = true ↔ (l.length : Int) = m ∧ ∀ c ∈ l, okB c = true := by unfold okRow; simp
theorem may_iff {g : Gd} : may g = true ↔ (2 ≤ g.rows ∧ g.rows ≤ 60 ∧ 8 ≤ g.cols ∧ g.cols ≤ 132) ∧ (g.cells.length : Int) = g.rows ∧ (0 ≤ g.row ∧ g.row < g.rows ∧ 0 ≤ g.col ∧ g.col < g.cols) ∧ ∀ l ∈ g.cells, okRow g.cols l = true := by
  unfold may
  rw [Bool.and_eq_true, Bool.and_eq_true, Bool.and_eq_true, sized_iff, has_iff, List.all_eq_true]
  simp [and_assoc]
theorem may_blank (n m : Nat) (h1 : 2 ≤ n) (h2 : n ≤ 60) (h3 : 8 ≤ m) (h4 : m ≤ 132) : may (blankG n m) = true := by
  rw [may_iff]
  refine ⟨by simp only [blankG]; omega, by simp [blankG, blankC], by simp only [blankG]; omega, fun l hl => ?_⟩
  simp only [blankG, blankC] at hl ⊢
  rw [List.eq_of_mem_replicate hl, okRow_iff]
  refine ⟨by simp, fun c hc => ?_⟩
  rw [List.eq_of_mem_replicate hc]; rfl

theorem setAt_len (ls : List (List UInt8)) (r c : Nat) (b : UInt8) : (setAt ls r c b).length = ls.length := by unfold setAt; simp
theorem setAt_get (ls : List (List UInt8)) (r c : Nat) (b : UInt8) (i : Nat) : (setAt ls r c b)[i]? = if i = r then (ls[i]?).map (fun l => l.set c b) else ls[i]? := by
  unfold setAt
  rw [List.getElem?_set]
  by_cases h : r = i
  · subst h
    by_cases h2 : r < ls.length
    · simp [h2, List.getD]
    · simp [h2, List.getElem?_eq_none (Nat.le_of_not_lt h2)]
  · rw [if_neg h, if_neg (Ne.symm h)]
theorem setAt_rowlen (ls : List (List UInt8)) (r c : Nat) (b : UInt8) (i : Nat) : ((setAt ls r c b).getD i []).length = (ls.getD i []).length := by
  unfold List.getD
  rw [setAt_get]
  split
  · cases ls[i]? <;> simp
  · rfl
theorem at_setAt (ls : List (List UInt8)) (r c : Nat) (b : UInt8) (i k : Nat) (hi : i < ls.length) (hk : k < (ls.getD i []).length) : at' (setAt ls r c b) i k = if i = r ∧ k = c then b else at' ls i k := by
  unfold at'
  have e : (setAt ls r c b).getD i [] = if i = r then (ls.getD i []).set c b else ls.getD i [] := by
    unfold List.getD
    rw [setAt_get]
    split
    · rw [List.getElem?_eq_getElem hi]; rfl
    · rfl
  rw [e]
  by_cases h1 : i = r
  · rw [if_pos h1]
    by_cases h2 : k = c
    · subst h2
      rw [if_pos ⟨h1, rfl⟩]
      generalize ls.getD i [] = l at hk
      unfold List.getD
      rw [List.getElem?_set_self hk]; rfl
    · rw [if_neg (fun h => h2 h.2)]
      unfold List.getD
      rw [List.getElem?_set_ne (Ne.symm h2)]
  · rw [if_neg h1, if_neg (fun h => h1 h.1)]
theorem setAt_same_at (ls : List (List UInt8)) (r c : Nat) (b b' : UInt8) : setAt (setAt ls r c b) r c b' = setAt ls r c b' := by
  apply List.ext_getElem?
  intro i
  rw [setAt_get, setAt_get, setAt_get]
  by_cases h : i = r
  · simp only [h, if_true]
    cases ls[r]? <;> simp
  · simp [h]
theorem setAt_comm (ls : List (List UInt8)) (r c r' c' : Nat) (b b' : UInt8) (h : ¬ (r = r' ∧ c = c')) : setAt (setAt ls r c b) r' c' b' = setAt (setAt ls r' c' b') r c b := by
  apply List.ext_getElem?
  intro i
  rw [setAt_get, setAt_get, setAt_get, setAt_get]
  by_cases h1 : i = r
  · by_cases h2 : i = r'
    · subst h1 h2
      have hc : c ≠ c' := fun e => h ⟨rfl, e⟩
      simp only [if_true]
      cases ls[i]? with
      | none => rfl
      | some l => simp [List.set_comm b b' hc]
    · rw [if_neg h2, if_pos h1, if_pos h1, if_neg h2]
  · by_cases h2 : i = r'
    · rw [if_pos h2, if_neg h1, if_neg h1, if_pos h2]
    · rw [if_neg h2, if_neg h1, if_neg h1, if_neg h2]
theorem setAt_all {m : Int} {ls : List (List UInt8)} (r c : Nat) (b : UInt8) (hb : okB b = true) (h : ∀ l ∈ ls, okRow m l = true) : ∀ l ∈ setAt ls r c b, okRow m l = true := by
  intro l hl
  obtain ⟨i, hi⟩ := List.mem_iff_getElem?.1 hl
  rw [setAt_get] at hi
  split at hi
  · cases e : ls[i]? with
    | none => rw [e] at hi; cases hi
    | some l' =>
      rw [e] at hi
      simp only [Option.map_some, Option.some.injEq] at hi
      subst hi
      have := okRow_iff.1 (h l' (List.mem_of_getElem? e))
      refine okRow_iff.2 ⟨by rw [List.length_set]; exact this.1, fun x hx => ?_⟩
      rcases List.mem_or_eq_of_mem_set hx with h1 | rfl
      · exact this.2 x h1
      · exact hb
  · exact h l (List.mem_of_getElem? hi)

theorem putOk_iff {g : Gd} {r c : Int} {b : UInt8} : putOk g r c b = true ↔ may g = true ∧ (0 ≤ r ∧ r < g.rows ∧ 0 ≤ c ∧ c < g.cols) ∧ okB b = true := by
  unfold putOk
  rw [Bool.and_eq_true, Bool.and_eq_true, has_iff, and_assoc]
theorem may_put (g : Gd) (r c : Int) (b : UInt8) : may (putG g r c b) = may g := by
  unfold putG putC
  cases h : putOk g r c b with
  | false => rfl
  | true =>
    obtain ⟨h1, h2, h3⟩ := putOk_iff.1 h
    rw [h1]
    have := may_iff.1 h1
    refine may_iff.2 ⟨this.1, ?_, this.2.2.1, ?_⟩
    · simp only [if_true, setAt_len]; exact this.2.1
    · exact setAt_all _ _ _ h3 this.2.2.2
theorem may_eq {g g' : Gd} (h1 : g'.rows = g.rows) (h2 : g'.cols = g.cols) (h3 : g'.row = g.row) (h4 : g'.col = g.col) (h5 : g'.cells = g.cells) : g' = g := by
  cases g; cases g'; simp_all
theorem putOk_put (g : Gd) (r c : Int) (b : UInt8) (r' c' : Int) (b' : UInt8) : putOk (putG g r c b) r' c' b' = putOk g r' c' b' := by
  unfold putOk
  rw [may_put]
  rfl
theorem put_comm (g : Gd) (r c r' c' : Int) (b b' : UInt8) (h : ¬ (r = r' ∧ c = c')) : putC (putG g r c b) r' c' b' = putC (putG g r' c' b') r c b := by
  unfold putC
  rw [putOk_put, putOk_put]
  cases h1 : putOk g r c b with
  | false =>
    cases h2 : putOk g r' c' b' with
    | false => simp [putG, putC, h1, h2]
    | true => simp [putG, putC, h1, h2]
  | true =>
    cases h2 : putOk g r' c' b' with
    | false => simp [putG, putC, h1, h2]
    | true =>
      obtain ⟨_, a1, _⟩ := putOk_iff.1 h1
      obtain ⟨_, a2, _⟩ := putOk_iff.1 h2
      simp only [putG, putC, h1, h2, if_true]
      exact setAt_comm _ _ _ _ _ _ _ (fun e => h ⟨by omega, by omega⟩)
theorem put_len (g : Gd) (r c : Int) (b : UInt8) : (putC g r c b).length = g.cells.length := by
  unfold putC; split
  · rw [setAt_len]
  · rfl
theorem put_rowlen (g : Gd) (r c : Int) (b : UInt8) (i : Nat) : ((putC g r c b).getD i []).length = (g.cells.getD i []).length := by
  unfold putC; split
  · rw [setAt_rowlen]
  · rfl

/-- What comes of many Puts. -/
structure Cl' where
  r : Int
  c : Int
  b : UInt8
def puts (g : Gd) : List Cl' → Gd
  | [] => g
  | x :: l => puts (putG g x.r x.c x.b) l
theorem puts_snoc (g : Gd) (l : List Cl') (x : Cl') : puts g (l ++ [x]) = putG (puts g l) x.r x.c x.b := by
  induction l generalizing g with
  | nil => rfl
  | cons y l ih => exact ih _
theorem may_puts (g : Gd) (l : List Cl') : may (puts g l) = may g := by
  induction l generalizing g with
  | nil => rfl
  | cons y l ih => rw [puts, ih, may_put]
theorem puts_nums (g : Gd) (l : List Cl') : (puts g l).rows = g.rows ∧ (puts g l).cols = g.cols ∧ (puts g l).row = g.row ∧ (puts g l).col = g.col ∧ (puts g l).cells.length = g.cells.length := by
  induction l generalizing g with
  | nil => exact ⟨rfl, rfl, rfl, rfl, rfl⟩
  | cons y l ih =>
    obtain ⟨h1, h2, h3, h4, h5⟩ := ih (putG g y.r y.c y.b)
    exact ⟨h1, h2, h3, h4, h5.trans (put_len g _ _ _)⟩
/-- What is wanted at a place, behind the first Puts. -/
def want (l : List Cl') (i k : Nat) (z : UInt8) : UInt8 := l.foldl (fun z x => if x.r = (i : Int) ∧ x.c = (k : Int) ∧ okB x.b = true then x.b else z) z
theorem want_snoc (l : List Cl') (x : Cl') (i k : Nat) (z : UInt8) : want (l ++ [x]) i k z = if x.r = (i : Int) ∧ x.c = (k : Int) ∧ okB x.b = true then x.b else want l i k z := by
  unfold want; rw [List.foldl_append]; rfl
theorem at_put (g : Gd) (hg : may g = true) (r c : Int) (b : UInt8) (i k : Nat) (hi : (i : Int) < g.rows) (hk : (k : Int) < g.cols) :
    at' (putC g r c b) i k = if r = (i : Int) ∧ c = (k : Int) ∧ okB b = true then b else at' g.cells i k := by
  have hm := may_iff.1 hg
  have hil : i < g.cells.length := by omega
  have hkl : k < (g.cells.getD i []).length := by
    have := (okRow_iff.1 (hm.2.2.2 (g.cells.getD i []) (by unfold List.getD; rw [List.getElem?_eq_getElem hil]; exact List.getElem_mem _))).1
    omega
  unfold putC
  cases h : putOk g r c b with
  | false =>
    rw [if_neg (by simp), if_neg]
    rintro ⟨rfl, rfl, hb⟩
    have := putOk_iff.2 ⟨hg, ⟨by omega, hi, by omega, hk⟩, hb⟩
    rw [h] at this; cases this
  | true =>
    obtain ⟨_, a1, hb⟩ := putOk_iff.1 h
    rw [if_pos rfl, at_setAt _ _ _ _ _ _ hil hkl]
    by_cases e : r = (i : Int) ∧ c = (k : Int)
    · obtain ⟨rfl, rfl⟩ := e
      rw [if_pos ⟨rfl, rfl⟩, if_pos ⟨rfl, rfl, hb⟩]
    · rw [if_neg (fun h => e ⟨by omega, by omega⟩), if_neg (fun h => e ⟨h.1, h.2.1⟩)]
theorem at_puts (g : Gd) (hg : may g = true) (l : List Cl') (i k : Nat) (hi : (i : Int) < g.rows) (hk : (k : Int) < g.cols) : at' (puts g l).cells i k = want l i k (at' g.cells i k) := by
  induction l generalizing g with
  | nil => rfl
  | cons x l ih =>
    rw [puts, ih (putG g x.r x.c x.b) (by rw [may_put]; exact hg) hi hk]
    show want l i k (at' (putC g x.r x.c x.b) i k) = _
    rw [at_put g hg _ _ _ _ _ hi hk]
    rfl
theorem may_row {g : Gd} (hg : may g = true) {i : Nat} {l : List UInt8} (h : g.cells[i]? = some l) : (l.length : Int) = g.cols := (okRow_iff.1 ((may_iff.1 hg).2.2.2 l (List.mem_of_getElem? h))).1
theorem at_blank (n m i k : Nat) (hi : i < n) (hk : k < m) : at' (blankC n m) i k = 32 := by
  unfold at' blankC List.getD
  rw [List.getElem?_replicate, if_pos hi, Option.getD_some, List.getElem?_replicate, if_pos hk]; rfl
/-- How many cells. -/
def tot (ls : List (List UInt8)) : Nat := (ls.map List.length).sum
def few (ls : List (List UInt8)) : Prop := ls.length ≤ 200 ∧ ∀ l ∈ ls, l.length ≤ 20000
theorem few_put (g : Gd) (r c : Int) (b : UInt8) (h : few g.cells) : few (putC g r c b) := by
  refine ⟨by rw [put_len]; exact h.1, fun l hl => ?_⟩
  obtain ⟨i, hi⟩ := List.mem_iff_getElem?.1 hl
  have e := put_rowlen g r c b i
  unfold List.getD at e
  rw [hi] at e
  rw [Option.getD_some] at e
  rw [e]
  cases h2 : g.cells[i]? with
  | none => simp
  | some l' => exact h.2 l' (List.mem_of_getElem? h2)
theorem few_blank (n m : Nat) (h1 : n ≤ 60) (h2 : m ≤ 132) : few (blankC n m) := by
  refine ⟨by simp [blankC]; omega, fun l hl => ?_⟩
  rw [List.eq_of_mem_replicate hl, List.length_replicate]; omega
theorem few_may {g : Gd} (hg : may g = true) : few g.cells := by
  have h := may_iff.1 hg
  refine ⟨by omega, fun l hl => ?_⟩
  have := (okRow_iff.1 (h.2.2.2 l hl)).1
  omega
end Go.Proofs.Yteekihhngjbjgaa.grd
