/- Splices: fold, All, of the program. -/
import Derived.Test.YtakckmelojobkaaGreatDoorSplInv
namespace Go.Proofs.YtakckmelojobkaaGreatDoor.sps
open Go.RowKit Go.Lib pce
set_option linter.unusedVariables false
set_option linter.unusedSimpArgs false
set_option linter.unnecessarySimpa false
set_option linter.unusedSectionVars false

/-- What splices, one behind the other, come to: an error; or the lines, in a row of their own. -/
def AllSays (base : Nat) (w : World) (L : List ByteArray) (k : Int) (e : Ending) (w' : World) : Prop := Below w.heap.size w w' ∧
  ((¬ k = 0 ∧ e = .returned (.tuple #[.slice none 0 0, .int .i64 k])) ∨ (k = 0 ∧ ∃ B n c, e = .returned (.tuple #[.slice B n c, .int .i64 0]) ∧ n = L.length ∧ w'.ownsRow base 9 1 (.slice B n c) n (L.map Value.string)))
theorem lst_own {w : World} {base : Nat} {A : Option Addr} {n c : Nat} {zs : List ByteArray} (hn : n = zs.length) (h : w.ownsRow base 9 1 (.slice A n c) n (zs.map Value.string)) : Lst w (base ≤ ·) A n c zs := by
  obtain ⟨_, _, hv, hnil, hkc⟩ := own_form' h
  injection hv with e1 e2 e3
  subst e1 e3
  exact ⟨hn, hkc, hnil, VRd.of_own h⟩
/-- Where k of the splices have been done. -/
theorem run_next {L : List ByteArray} {ts : List Ct} {k : Nat} {t : Ct} (ht : ts[k]? = some t) (h : runE L (ts.take k) = 0) :
    (stp (runL L (ts.take k)) t ≠ 0 → runE L ts = stp (runL L (ts.take k)) t) ∧ (stp (runL L (ts.take k)) t = 0 → runE L (ts.take (k + 1)) = 0 ∧ runL L (ts.take (k + 1)) = nxt (runL L (ts.take k)) t) := by
  obtain ⟨hk, rfl⟩ := List.getElem?_eq_some_iff.1 ht
  have e : ts.take (k + 1) = ts.take k ++ [ts[k]] := List.take_succ_eq_append_getElem hk
  refine ⟨fun h1 => ?_, fun h1 => ?_⟩
  · have e2 : ts = ts.take k ++ (ts[k] :: ts.drop (k + 1)) := by
      conv => lhs; rw [← List.take_append_drop k ts, List.drop_eq_getElem_cons hk]
    conv => lhs; rw [e2]
    rw [runE_append, if_neg (by simp [h]), runE_cons, if_pos h1]
  · rw [e, runE_append, if_neg (by simp [h]), runL_append]
    refine ⟨?_, rfl⟩
    rw [runE_cons, if_neg (by simp [h1])]; rfl
def allK (L : List ByteArray) (ts : List Ct) : Int := if chk L ≠ 0 then chk L else runE L ts
theorem allK_zero {L : List ByteArray} {ts : List Ct} : allK L ts = 0 ↔ Fine L ∧ runE L ts = 0 := by
  unfold allK
  split
  · rename_i h
    exact ⟨fun e => absurd e h, fun e => absurd (fine_chk.2 e.1) h⟩
  · rename_i h
    rw [← fine_chk]
    refine ⟨fun e => ⟨?_, e⟩, fun e => e.2⟩
    rcases Int.decEq (chk L) 0 with h' | h'
    · exact absurd h' h
    · exact h'
theorem allK_fine {L : List ByteArray} {ts : List Ct} (h : Fine L) : allK L ts = runE L ts := by
  unfold allK; rw [fine_chk.2 h, if_neg (by simp)]
end Go.Proofs.YtakckmelojobkaaGreatDoor.sps
