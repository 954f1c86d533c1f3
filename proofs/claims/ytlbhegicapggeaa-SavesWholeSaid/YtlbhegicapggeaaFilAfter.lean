/- Files, the laws: a file system behind what was done to it. -/
import Derived.Test.YtlbhegicapggeaaFilRun
namespace Go.Proofs.Ytlbhegicapggeaa.fil
open Go.RowKit Go.Lib Go.Maps Go.WideMaps
set_option linter.unusedVariables false
set_option linter.unusedSimpArgs false
set_option linter.unnecessarySimpa false
set_option linter.unusedSectionVars false

def act1 (s : St) (d : Dt) : St := if d.what % 12 = 11 then s else (step s d).2
def acted (n : Nat) (ds : List Dt) : St := ds.foldl act1 (sNew n)
def after (n : Nat) (ds : List Dt) : St := if (acted n ds).off = true then (sStart (acted n ds)).2 else acted n ds
theorem acted_succ (n : Nat) (ds : List Dt) (i : Nat) (d : Dt) (h : ds[i]? = some d) : acted n (ds.take (i + 1)) = act1 (acted n (ds.take i)) d := by
  unfold acted
  rw [List.take_add_one, h, List.foldl_append]
  rfl
theorem stroke_due {s : St} (h : s.due = none) (e : Int) (early : Bool) (t : List Fl) : (stroke s e early t).2.due = none := by
  unfold stroke
  rw [h]
  repeat' split
  all_goals first | exact h | rfl | (rename_i hx; cases hx)
theorem act1_due {s : St} (h : s.due = none) (d : Dt) : (act1 s d).due = none := by
  unfold act1
  split
  · exact h
  · rename_i hn
    unfold step sSync sTrunc sRename sRemove sAppend
    repeat' split
    all_goals first
      | exact stroke_due h _ _ _
      | (unfold sCrash crash; split <;> first | exact h | rfl)
      | (unfold sStart; split <;> exact h)
      | (exfalso; omega)
theorem stroke_cap (s : St) (e : Int) (early : Bool) (t : List Fl) : (stroke s e early t).2.cap = s.cap := by
  unfold stroke crash
  repeat' split
  all_goals rfl
theorem step_cap (s : St) (d : Dt) : (step s d).2.cap = s.cap := by
  unfold step sSync sTrunc sRename sRemove sAppend
  repeat' split
  all_goals first
    | exact stroke_cap _ _ _ _
    | (unfold sCrash crash; split <;> rfl)
    | (unfold sStart; split <;> rfl)
    | (unfold sFail; repeat' split
       all_goals rfl)
theorem act1_cap (s : St) (d : Dt) : (act1 s d).cap = s.cap := by
  unfold act1
  split
  · rfl
  · exact step_cap s d
theorem act1_starts (s : St) (d : Dt) : (act1 s d).starts ≤ s.starts + 1 := by
  unfold act1
  split
  · omega
  · exact step_starts s d
theorem acted_facts (n : Nat) (ds : List Dt) : (acted n ds).due = none ∧ (acted n ds).cap = n ∧ (acted n ds).starts ≤ ds.length := by
  have key : ∀ (l : List Dt) (s : St), s.due = none → s.cap = n → (l.foldl act1 s).due = none ∧ (l.foldl act1 s).cap = n ∧ (l.foldl act1 s).starts ≤ s.starts + l.length := by
    intro l
    induction l with
    | nil => intro s h1 h2; exact ⟨h1, h2, Nat.le_refl _⟩
    | cons d l ih =>
      intro s h1 h2
      obtain ⟨a, b, c⟩ := ih (act1 s d) (act1_due h1 d) ((act1_cap s d).trans h2)
      have := act1_starts s d
      exact ⟨a, b, by simp only [List.foldl_cons, List.length_cons]; omega⟩
  have := key ds (sNew n) rfl rfl
  exact ⟨this.1, this.2.1, by have h := this.2.2; simpa [sNew, acted] using h⟩
theorem after_on (n : Nat) (ds : List Dt) : (after n ds).off = false := by
  unfold after
  split
  · rename_i h; unfold sStart; rw [if_pos h]
  · rename_i h; simpa using h
theorem after_facts (n : Nat) (ds : List Dt) : (after n ds).due = none ∧ (after n ds).cap = n ∧ (after n ds).starts ≤ ds.length + 1 := by
  obtain ⟨h1, h2, h3⟩ := acted_facts n ds
  unfold after
  split
  · rename_i h
    unfold sStart
    rw [if_pos h]
    exact ⟨h1, h2, by show _ + 1 ≤ _; omega⟩
  · exact ⟨h1, h2, by omega⟩
/-- A list that one may read, in a later world. -/
theorem Dos.later {w w' : World} {hi n : Nat} {A : Option Addr} {ds : List Dt} (h : Dos w hi A ds) (hB : Below n w w') (hn : hi ≤ n) : Dos w' hi A ds := h.belowN (hB.mono hn)

end Go.Proofs.Ytlbhegicapggeaa.fil
