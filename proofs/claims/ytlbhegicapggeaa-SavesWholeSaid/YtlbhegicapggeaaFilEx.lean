/- Files, the laws: the chapter's examples. -/
import Derived.Test.YtlbhegicapggeaaFilMuch
namespace Go.Proofs.Ytlbhegicapggeaa.fil
open Go.RowKit Go.Lib Go.Maps Go.WideMaps
set_option linter.unusedVariables false
set_option linter.unusedSimpArgs false
set_option linter.unnecessarySimpa false
set_option linter.unusedSectionVars false

/-- The examples' things; their two lists lie in the blocks n and n + 1. -/
def acts (n : Nat) : List Dt :=
  [⟨0, B [98], B [], B [120, 121, 122], 0, none, 0, []⟩, ⟨3, B [98], B [], B [], 0, none, 0, []⟩, ⟨0, B [98], B [], B [117, 118], 0, none, 0, []⟩, ⟨0, B [97], B [], B [49, 50, 51, 52, 53], 0, none, 0, []⟩, ⟨0, B [97], B [], B [54], 0, none, 0, []⟩,
   ⟨8, B [], B [], B [], 0, some ⟨n, 0, none⟩, 2, [3, 1]⟩, ⟨9, B [], B [], B [], 0, none, 0, []⟩, ⟨11, B [], B [], B [], 1, some ⟨n + 1, 0, none⟩, 2, [0, 9]⟩, ⟨5, B [98], B [], B [], 2, none, 0, []⟩, ⟨0, B [98], B [], B [113], 0, none, 0, []⟩, ⟨9, B [], B [], B [], 0, none, 0, []⟩]
def wants : List Int := [0, 0, 0, 0, 50, 0, 0, 0, 0, 51, 0]
def run10 (i : Nat) : St := ((acts 0).take i).foldl (fun s d => (step s d).2) (sNew 10)
theorem acts_length (n : Nat) : (acts n).length = 11 := rfl
theorem run_step (n : Nat) : ∀ i, i < 11 → ∀ d, (acts n)[i]? = some d → step (run10 i) d = (wants.getD i 0, run10 (i + 1)) := by
  have key : ∀ i, i < 11 → (step (run10 i) ((acts 0).getD i ⟨0, B [], B [], B [], 0, none, 0, []⟩)).1 = wants.getD i 0 := by decide +kernel
  intro i hi d hd
  have e : step (run10 i) d = step (run10 i) ((acts 0).getD i ⟨0, B [], B [], B [], 0, none, 0, []⟩) := by
    match i, hi with
    | 0, _ | 1, _ | 2, _ | 3, _ | 4, _ | 5, _ | 6, _ | 7, _ | 8, _ | 9, _ | 10, _ => injection hd with hd; rw [← hd]; rfl
  have hlt : i < (acts 0).length := hi
  rw [e]
  refine Prod.ext (key i hi) ?_
  show _ = ((acts 0).take (i + 1)).foldl _ _
  rw [List.take_add_one, List.getElem?_eq_getElem hlt, List.foldl_append]
  simp [List.getD, List.getElem?_eq_getElem hlt, run10]
theorem run_air : airOf (run10 5).files = [5, 2] := by decide +kernel
theorem run_a : reads (run10 11) [97] = ([49, 50, 51], 0) := by decide +kernel
theorem run_b : reads (run10 11) [98] = ([120, 121, 113], 0) := by decide +kernel
theorem run_starts : (run10 11).starts = 2 := by decide +kernel
theorem run_few (i : Nat) : (run10 i).starts ≤ i := by
  have : ∀ (l : List Dt) (s : St), (l.foldl (fun s d => (step s d).2) s).starts ≤ s.starts + l.length := by
    intro l
    induction l with
    | nil => intro s; exact Nat.le_refl _
    | cons d l ih =>
      intro s
      have h1 := ih (step s d).2
      have h2 := step_starts s d
      rw [List.foldl_cons, List.length_cons]
      omega
  have h1 := this ((acts 0).take i) (sNew 10)
  rw [List.length_take] at h1
  have h2 : (sNew 10).starts = 0 := rfl
  unfold run10
  omega
theorem acts_ok (n : Nat) : ∀ d ∈ acts n, d.Ok := by
  intro d hd
  simp only [acts, List.mem_cons, List.not_mem_nil, or_false] at hd
  rcases hd with rfl | rfl | rfl | rfl | rfl | rfl | rfl | rfl | rfl | rfl | rfl <;> exact ⟨by simp, by simp [B_size, maxLen], by simp [B_size, maxLen], by simp [B_size, maxLen], by simp, by simp, by simp, by simp [maxLen]⟩
end Go.Proofs.Ytlbhegicapggeaa.fil
