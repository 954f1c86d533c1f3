/- Terminals: plain facts: what a terminal shows, byte by byte. -/
import Derived.Test.YteekihhngjbjgaaGrdPure
namespace Go.Proofs.Yteekihhngjbjgaa.vtt
open Go.Proofs.Yteekihhngjbjgaa.grd
set_option linter.unusedVariables false
set_option linter.unusedSimpArgs false
set_option linter.unnecessarySimpa false

/-- What an escape's parameters come to. -/
structure Pm where
  a : Nat
  b : Nat
  last : Nat
  bad : Bool
def Pm.zero : Pm := ⟨0, 0, 0, false⟩
/-- A terminal: sizes, rows, the cursor, the escape that has begun, its parameters. -/
structure Ts where
  n : Nat
  m : Nat
  ls : List (List UInt8)
  r : Nat
  k : Nat
  esc : Nat
  p : Pm
def gd (s : Ts) : Gd := ⟨s.n, s.m, s.ls, s.r, s.k⟩
/-- Cells of which p says so are blank. -/
def wipeIf (p : Nat → Nat → Bool) (ls : List (List UInt8)) : List (List UInt8) := ls.mapIdx fun i l => l.mapIdx fun j c => if p i j then 32 else c
def blankRow (m : Nat) : List UInt8 := List.replicate m 32
def scroll (m : Nat) (ls : List (List UInt8)) : List (List UInt8) := ls.tail ++ [blankRow m]
def num10 (x d : Nat) : Nat := min (x * 10 + d) 9999
def take (p : Pm) (c : UInt8) : Pm :=
  if 48 ≤ c.toNat ∧ c.toNat ≤ 57 then (if p.last = 0 then { p with a := num10 p.a (c.toNat - 48) } else { p with b := num10 p.b (c.toNat - 48) })
  else if c.toNat = 59 ∧ p.last = 0 then { p with last := 1 } else { p with bad := true }
def p0 (r k : Nat) (i j : Nat) : Bool := decide (i = r) && decide (k ≤ j)
def pJ (r k : Nat) (i j : Nat) : Bool := (decide (i = r) && decide (k ≤ j)) || decide (r < i)
def pK (r : Nat) (i j : Nat) : Bool := decide (i = r)
def pA (i j : Nat) : Bool := true
/-- What a command does. -/
def obey (s : Ts) (c : UInt8) : Ts :=
  if s.p.bad = true ∨ (0 < s.p.last ∧ c.toNat ≠ 72) then s
  else if c.toNat = 72 then { s with r := min (max s.p.a 1) s.n - 1, k := min (max s.p.b 1) s.m - 1 }
  else if c.toNat = 65 then { s with r := s.r - max s.p.a 1 }
  else if c.toNat = 66 then { s with r := min (s.r + max s.p.a 1) (s.n - 1) }
  else if c.toNat = 67 then { s with k := min (s.k + max s.p.a 1) (s.m - 1) }
  else if c.toNat = 68 then { s with k := s.k - max s.p.a 1 }
  else if c.toNat = 74 then (if s.p.a = 0 then { s with ls := wipeIf (pJ s.r s.k) s.ls } else if s.p.a = 2 then { s with ls := wipeIf pA s.ls } else s)
  else if c.toNat = 75 then (if s.p.a = 0 then { s with ls := wipeIf (p0 s.r s.k) s.ls } else if s.p.a = 2 then { s with ls := wipeIf (pK s.r) s.ls } else s)
  else s
def down (s : Ts) : Ts := if s.r + 1 < s.n then { s with r := s.r + 1 } else { s with ls := scroll s.m s.ls }
def show' (s : Ts) (c : UInt8) : Ts :=
  if c.toNat = 27 then { s with esc := 1 }
  else if c.toNat = 13 then { s with k := 0 }
  else if c.toNat = 10 then down s
  else if c.toNat = 8 then { s with k := s.k - 1 }
  else if 32 ≤ c.toNat ∧ c.toNat ≤ 126 then { s with ls := setAt s.ls s.r s.k c, k := min (s.k + 1) (s.m - 1) }
  else s
def begin' (s : Ts) (c : UInt8) : Ts :=
  if c.toNat = 27 then s else if c.toNat = 91 then { s with p := Pm.zero, esc := 2 } else { s with esc := 0 }
def goOn (s : Ts) (c : UInt8) : Ts :=
  if c.toNat = 27 then { s with esc := 1 }
  else if 32 ≤ c.toNat ∧ c.toNat < 64 then { s with p := take s.p c }
  else obey { s with esc := 0 } c
def step (s : Ts) (c : UInt8) : Ts := if s.esc = 0 then show' s c else if s.esc = 1 then begin' s c else goOn s c
def feed (s : Ts) (l : List UInt8) : Ts := l.foldl step s
theorem feed_nil (s : Ts) : feed s [] = s := rfl
theorem feed_cons (s : Ts) (c : UInt8) (l : List UInt8) : feed s (c :: l) = feed (step s c) l := rfl
theorem feed_append (s : Ts) (l l' : List UInt8) : feed s (l ++ l') = feed (feed s l) l' := List.foldl_append
theorem feed_snoc (s : Ts) (l : List UInt8) (c : UInt8) : feed s (l ++ [c]) = step (feed s l) c := feed_append s l [c]
/-- A new one. -/
def new (n m : Nat) : Ts := ⟨n, m, blankC n m, 0, 0, 0, Pm.zero⟩

/-- A terminal that may be. -/
structure Ok (s : Ts) : Prop where
  size : 2 ≤ s.n ∧ s.n ≤ 60 ∧ 8 ≤ s.m ∧ s.m ≤ 132
  len : s.ls.length = s.n
  row : ∀ l ∈ s.ls, l.length = s.m ∧ ∀ c ∈ l, okB c = true
  cur : s.r < s.n ∧ s.k < s.m
  par : s.p.a ≤ 9999 ∧ s.p.b ≤ 9999 ∧ s.p.last ≤ 1
  esc : s.esc ≤ 2
theorem Ok.may {s : Ts} (h : Ok s) : may (gd s) = true := by
  obtain ⟨h1, h2, h3, h4, h5, h6⟩ := h
  rw [may_iff]
  unfold gd
  refine ⟨by dsimp only; omega, by dsimp only; omega, by dsimp only; omega, fun l hl => ?_⟩
  rw [okRow_iff]
  have := h3 l hl
  exact ⟨by dsimp only; omega, this.2⟩
theorem wipeIf_len (p : Nat → Nat → Bool) (ls : List (List UInt8)) : (wipeIf p ls).length = ls.length := by unfold wipeIf; simp
theorem wipeIf_get (p : Nat → Nat → Bool) (ls : List (List UInt8)) (i : Nat) : (wipeIf p ls)[i]? = (ls[i]?).map fun l => l.mapIdx fun j c => if p i j then 32 else c := by
  unfold wipeIf; rw [List.getElem?_mapIdx]
theorem wipeIf_ext {p q : Nat → Nat → Bool} {ls : List (List UInt8)} (h : ∀ i l j, ls[i]? = some l → j < l.length → p i j = q i j) : wipeIf p ls = wipeIf q ls := by
  apply List.ext_getElem?
  intro i
  rw [wipeIf_get, wipeIf_get]
  cases e : ls[i]? with
  | none => rfl
  | some l =>
    rw [Option.map_some, Option.map_some]
    congr 1
    apply List.ext_getElem?
    intro j
    rw [List.getElem?_mapIdx, List.getElem?_mapIdx]
    cases e2 : l[j]? with
    | none => rfl
    | some c => rw [Option.map_some, Option.map_some, h i l j e (List.getElem?_eq_some_iff.1 e2).1]
theorem wipeIf_none (ls : List (List UInt8)) : wipeIf (fun _ _ => false) ls = ls := by
  apply List.ext_getElem?
  intro i
  rw [wipeIf_get]
  cases e : ls[i]? with
  | none => rfl
  | some l =>
    rw [Option.map_some]
    congr 1
    apply List.ext_getElem?
    intro j
    rw [List.getElem?_mapIdx]
    cases l[j]? <;> simp
theorem wipeIf_no {p : Nat → Nat → Bool} {ls : List (List UInt8)} (h : ∀ i l j, ls[i]? = some l → j < l.length → p i j = false) : wipeIf p ls = ls := by
  rw [wipeIf_ext h, wipeIf_none]
theorem wipeIf_set (p : Nat → Nat → Bool) (ls : List (List UInt8)) (i j : Nat) : setAt (wipeIf p ls) i j 32 = wipeIf (fun a b => p a b || (decide (a = i) && decide (b = j))) ls := by
  apply List.ext_getElem?
  intro x
  rw [setAt_get, wipeIf_get, wipeIf_get]
  cases e : ls[x]? with
  | none => simp
  | some l =>
    by_cases hx : x = i
    · subst hx
      rw [if_pos rfl]
      simp only [Option.map_some, decide_true, Bool.true_and]
      congr 1
      apply List.ext_getElem?
      intro y
      rw [List.getElem?_set, List.getElem?_mapIdx, List.getElem?_mapIdx, List.length_mapIdx]
      by_cases hy : j = y
      · subst hy
        rw [if_pos rfl]
        by_cases hl : j < l.length
        · simp [hl]
        · simp [hl, List.getElem?_eq_none (Nat.le_of_not_lt hl)]
      · rw [if_neg hy]
        cases l[y]? with
        | none => rfl
        | some c => simp [Ne.symm hy]
    · rw [if_neg hx]
      simp [hx]
theorem wipeIf_row {p : Nat → Nat → Bool} {ls : List (List UInt8)} {m : Nat} (h : ∀ l ∈ ls, l.length = m ∧ ∀ c ∈ l, okB c = true) : ∀ l ∈ wipeIf p ls, l.length = m ∧ ∀ c ∈ l, okB c = true := by
  intro l hl
  obtain ⟨i, hi⟩ := List.mem_iff_getElem?.1 hl
  rw [wipeIf_get] at hi
  cases e : ls[i]? with
  | none => rw [e] at hi; cases hi
  | some l' =>
    rw [e, Option.map_some, Option.some.injEq] at hi
    subst hi
    have := h l' (List.mem_of_getElem? e)
    refine ⟨by rw [List.length_mapIdx]; exact this.1, fun c hc => ?_⟩
    obtain ⟨j, hj⟩ := List.mem_iff_getElem?.1 hc
    rw [List.getElem?_mapIdx] at hj
    cases e2 : l'[j]? with
    | none => rw [e2] at hj; cases hj
    | some d =>
      rw [e2, Option.map_some, Option.some.injEq] at hj
      subst hj
      split
      · rfl
      · exact this.2 d (List.mem_of_getElem? e2)
theorem wipeIf_at (p : Nat → Nat → Bool) (ls : List (List UInt8)) (i j : Nat) (l : List UInt8) (c : UInt8) (hl : ls[i]? = some l) (hc : l[j]? = some c) : ∃ l', (wipeIf p ls)[i]? = some l' ∧ l'.length = l.length ∧ l'[j]? = some (if p i j then 32 else c) := by
  refine ⟨l.mapIdx fun j c => if p i j then 32 else c, by rw [wipeIf_get, hl]; rfl, by rw [List.length_mapIdx], by rw [List.getElem?_mapIdx, hc]; rfl⟩
theorem take_ok (p : Pm) (c : UInt8) (h : p.a ≤ 9999 ∧ p.b ≤ 9999 ∧ p.last ≤ 1) : (take p c).a ≤ 9999 ∧ (take p c).b ≤ 9999 ∧ (take p c).last ≤ 1 := by
  unfold take num10
  split
  · split
    · exact ⟨by dsimp only; omega, h.2.1, h.2.2⟩
    · exact ⟨h.1, by dsimp only; omega, h.2.2⟩
  · split
    · exact ⟨h.1, h.2.1, by dsimp only; omega⟩
    · exact h
theorem setAt_row {ls : List (List UInt8)} {m : Nat} (h : ∀ l ∈ ls, l.length = m ∧ ∀ c ∈ l, okB c = true) (r k : Nat) (b : UInt8) (hb : okB b = true) : ∀ l ∈ setAt ls r k b, l.length = m ∧ ∀ c ∈ l, okB c = true := by
  intro l hl
  have := setAt_all (m := (m : Int)) r k b hb (fun l hl => okRow_iff.2 ⟨by have := (h l hl).1; omega, (h l hl).2⟩) l hl
  have := okRow_iff.1 this
  exact ⟨by omega, this.2⟩
theorem scroll_row {ls : List (List UInt8)} {m : Nat} (h : ∀ l ∈ ls, l.length = m ∧ ∀ c ∈ l, okB c = true) : ∀ l ∈ scroll m ls, l.length = m ∧ ∀ c ∈ l, okB c = true := by
  intro l hl
  unfold scroll at hl
  rcases List.mem_append.1 hl with h1 | h1
  · exact h l (List.mem_of_mem_tail h1)
  · rw [List.mem_singleton.1 h1]
    unfold blankRow
    exact ⟨by simp, fun c hc => by rw [List.eq_of_mem_replicate hc]; rfl⟩
theorem scroll_len {ls : List (List UInt8)} {m n : Nat} (h : ls.length = n) (hn : 0 < n) : (scroll m ls).length = n := by unfold scroll; simp; omega
theorem Ok.new {n m : Nat} (h : 2 ≤ n ∧ n ≤ 60 ∧ 8 ≤ m ∧ m ≤ 132) : Ok (new n m) := by
  unfold vtt.new
  refine ⟨h, by simp [blankC], fun l hl => ?_, by dsimp only; omega, by simp [Pm.zero], by simp⟩
  simp only [blankC] at hl
  rw [List.eq_of_mem_replicate hl]
  exact ⟨by simp, fun c hc => by rw [List.eq_of_mem_replicate hc]; rfl⟩
theorem Ok.wipe {s : Ts} (h : Ok s) (p : Nat → Nat → Bool) : Ok { s with ls := wipeIf p s.ls } := ⟨h.size, by rw [wipeIf_len]; exact h.len, wipeIf_row h.row, h.cur, h.par, h.esc⟩
theorem Ok.cursor {s : Ts} (h : Ok s) {r k : Nat} (hr : r < s.n) (hk : k < s.m) : Ok { s with r := r, k := k } := ⟨h.size, h.len, h.row, ⟨hr, hk⟩, h.par, h.esc⟩
theorem Ok.esc' {s : Ts} (h : Ok s) {e : Nat} (he : e ≤ 2) : Ok { s with esc := e } := ⟨h.size, h.len, h.row, h.cur, h.par, he⟩
theorem Ok.obey {s : Ts} (h : Ok s) (c : UInt8) : Ok (obey s c) := by
  have h1 := h.size
  have h2 := h.cur
  unfold vtt.obey
  split
  · exact h
  split
  · exact h.cursor (by omega) (by omega)
  split
  · exact h.cursor (by omega) h2.2
  split
  · exact h.cursor (by omega) h2.2
  split
  · exact h.cursor h2.1 (by omega)
  split
  · exact h.cursor h2.1 (by omega)
  split
  · split
    · exact h.wipe _
    · split
      · exact h.wipe _
      · exact h
  split
  · split
    · exact h.wipe _
    · split
      · exact h.wipe _
      · exact h
  · exact h
theorem Ok.down {s : Ts} (h : Ok s) : Ok (down s) := by
  have h1 := h.size
  have h2 := h.cur
  have hp : 0 < s.n := by omega
  unfold vtt.down
  split
  · exact h.cursor (by omega) h2.2
  · exact ⟨h.size, scroll_len h.len hp, scroll_row h.row, h.cur, h.par, h.esc⟩
theorem Ok.step {s : Ts} (h : Ok s) (c : UInt8) : Ok (step s c) := by
  have h1 := h.size
  have h2 := h.cur
  unfold vtt.step
  split
  · unfold show'
    split
    · exact h.esc' (by omega)
    split
    · exact h.cursor h2.1 (by omega)
    split
    · exact h.down
    split
    · exact h.cursor h2.1 (by omega)
    split
    · rename_i hc
      exact ⟨h.size, by rw [setAt_len]; exact h.len, setAt_row h.row _ _ _ (okB_iff.2 hc), ⟨h2.1, by dsimp only; omega⟩, h.par, h.esc⟩
    · exact h
  split
  · unfold begin'
    split
    · exact h
    split
    · exact ⟨h.size, h.len, h.row, h.cur, by simp [Pm.zero], by simp⟩
    · exact h.esc' (by omega)
  · unfold goOn
    split
    · exact h.esc' (by omega)
    split
    · exact ⟨h.size, h.len, h.row, h.cur, take_ok _ _ h.par, h.esc⟩
    · exact (h.esc' (Nat.zero_le _)).obey c
theorem Ok.feed {s : Ts} (h : Ok s) (l : List UInt8) : Ok (feed s l) := by
  induction l generalizing s with
  | nil => exact h
  | cons c l ih => exact ih (h.step c)
theorem obey_size (s : Ts) (c : UInt8) : (obey s c).n = s.n ∧ (obey s c).m = s.m ∧ (obey s c).esc = s.esc ∧ (obey s c).p = s.p := by
  unfold obey
  repeat' split
  all_goals exact ⟨rfl, rfl, rfl, rfl⟩
theorem step_size (s : Ts) (c : UInt8) : (step s c).n = s.n ∧ (step s c).m = s.m := by
  unfold step
  split
  · unfold show' down
    repeat' split
    all_goals exact ⟨rfl, rfl⟩
  split
  · unfold begin'
    repeat' split
    all_goals exact ⟨rfl, rfl⟩
  · unfold goOn
    repeat' split
    all_goals first | exact ⟨rfl, rfl⟩ | exact ⟨(obey_size _ _).1, (obey_size _ _).2.1⟩
theorem feed_size (s : Ts) (l : List UInt8) : (feed s l).n = s.n ∧ (feed s l).m = s.m := by
  induction l generalizing s with
  | nil => exact ⟨rfl, rfl⟩
  | cons c l ih =>
    have h1 := ih (step s c)
    have h2 := step_size s c
    exact ⟨h1.1.trans h2.1, h1.2.trans h2.2⟩
/-- The parameters of a text. -/
def digest (q : List UInt8) : Pm := q.foldl take Pm.zero
theorem digest_snoc (q : List UInt8) (c : UInt8) : digest (q ++ [c]) = take (digest q) c := by unfold digest; rw [List.foldl_append]; rfl
end Go.Proofs.Yteekihhngjbjgaa.vtt
