/- Files, the laws: whether two lists of numbers are one; what each file has. -/
import Derived.Test.YtlbhegicapggeaaFilWith
import Derived.Test.YtlbhegicapggeaaSame
namespace Go.Proofs.Ytlbhegicapggeaa.fil
open Go.RowKit Go.Lib Go.Maps Go.WideMaps
set_option linter.unusedVariables false
set_option linter.unusedSimpArgs false
set_option linter.unnecessarySimpa false
set_option linter.unusedSectionVars false

theorem LRd.ints {w : World} {lo hi : Nat} {A : Option Addr} {xs : List Int} (h : LRd w lo hi A (iv xs)) (h0 : 0 < xs.length) : ∃ b off, A = some ⟨b, off, none⟩ ∧ ∀ j, j < xs.length → w.cell? ⟨b, off + j, none⟩ = some (.int .i64 (xs.getD j 0)) := by
  obtain ⟨b, off, e, _, _, h3⟩ := h (by rw [iv_length]; exact h0)
  exact ⟨b, off, e, fun j hj => h3 j _ (by simp [iv, List.getD, List.getElem?_eq_getElem hj])⟩

/-- A list that a call told, in memory of its own. -/
def Told (w : World) (xs : List Value) (v : Value) (w' : World) : Prop :=
  ∃ A c, v = .slice A xs.length c ∧ xs.length ≤ c ∧ c ≤ maxLen ∧ (A = none → c = 0) ∧ LRd w' w.heap.size w'.heap.size A xs
theorem Told.of_own {w w' : World} {v : Value} {xs : List Value} {n : Nat} (h : w'.ownsRow w.heap.size 9 1 v n xs) : Told w xs v w' := by
  have hn : xs.length = n := by simpa using h.1
  subst hn
  obtain ⟨A, c, rfl, h1, h2⟩ := own_form2 h
  refine ⟨A, c, rfl, h1, h2, fun hA => ?_, LRd.of_own h⟩
  subst hA
  rcases h.2 with ⟨hv, _⟩ | ⟨g, cap, cur, hv, _⟩
  · injection hv
  · cases hv

def bytesOf (l : List Fl) : List (List UInt8) := l.map (·.bytes)
theorem bytesOf_length (l : List Fl) : (bytesOf l).length = l.length := by simp [bytesOf]
theorem info9 : (Try.prog.info? 9).map (fun i => (i.zero, i.size, i.bytes)) = some (some (.string ⟨#[]⟩), 1, 16) := by kernel_rfl
theorem one_str (s : ByteArray) : ∀ u ∈ [Value.string s], u.oneCell' = true := by
  intro u hu; rw [List.mem_singleton.1 hu]; rfl

section
variable {F : Nat → Prop} {fb mb : Nat} {D : DataW Unit} {G : List Gf} {dp : Option Addr} {s : St}
end
end Go.Proofs.Ytlbhegicapggeaa.fil
