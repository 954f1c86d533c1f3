/- Pieces: between: the pieces of the lines that stand behind the first a ones, up to the one numbered u. -/
import Derived.Test.YtakckmelojobkaaGreatDoorPceWords
/-! Pieces: what a table is asked by itself: isNone, all, Len, Pieces; tableOf, cut, onePiece. -/
namespace Go.Proofs.YtakckmelojobkaaGreatDoor.pce
open Go.RowKit Go.Lib
set_option linter.unusedVariables false
set_option linter.unusedSimpArgs false
set_option linter.unnecessarySimpa false
set_option linter.unusedSectionVars false

/-- The pieces that one list of lines makes: one, or none. -/
def lone (b o : Nat) (zs : List ByteArray) : List Pc := if zs = [] then [] else [⟨b, o, zs⟩]
theorem lone_text (b o : Nat) (zs : List ByteArray) : texts (lone b o zs) = zs := by
  unfold lone; split
  · rename_i h; rw [h]; rfl
  · rw [texts_one]
theorem lone_len (b o : Nat) (zs : List ByteArray) : (lone b o zs).length = if zs = [] then 0 else 1 := by unfold lone; split <;> rfl
theorem lone_full (b o : Nat) (zs : List ByteArray) : Full (lone b o zs) := by
  unfold lone; split
  · exact Full.nil
  · rename_i h; exact Full.one h

end Go.Proofs.YtakckmelojobkaaGreatDoor.pce

/-! Pieces: between: the pieces of the lines that stand behind the first a ones, up to the one numbered u. -/
namespace Go.Proofs.YtakckmelojobkaaGreatDoor.pce
open Go.RowKit Go.Lib
set_option linter.unusedVariables false
set_option linter.unusedSimpArgs false
set_option linter.unnecessarySimpa false
set_option linter.unusedSectionVars false

theorem cut_at {w : World} {F : Nat → Prop} {p : Pc} (h : PcAt w F p) (low high : Nat) : PcAt w F (p.cut low high) :=
  ⟨h.mine, h.lt, fun j u hj => by
    simp only [Pc.cut, List.map_drop, List.map_take, List.getElem?_drop, List.getElem?_take] at hj ⊢
    split at hj
    · rw [show p.off + low + j = p.off + (low + j) by omega]
      exact h.cells _ u hj
    · cases hj⟩
theorem one_in {w : World} {F : Nat → Prop} {p : Pc} (h : PcAt w F p) (a u : Int) : ∀ q ∈ one a u p, PcAt w F q := fun q hq => by
  unfold one at hq
  split at hq
  · rw [List.mem_singleton.1 hq]; exact cut_at h _ _
  · cases hq
theorem btw_in {w : World} {F : Nat → Prop} : ∀ (ps : List Pc) (a u : Int), (∀ p ∈ ps, PcAt w F p) → ∀ q ∈ btw a u ps, PcAt w F q
  | [], a, u, h, q, hq => by cases hq
  | p :: r, a, u, h, q, hq => by
    rw [btw_cons, List.mem_append] at hq
    rcases hq with hq | hq
    · exact one_in (h p (by simp)) a u q hq
    · exact btw_in r _ _ (fun p hp => h p (by simp [hp])) q hq

end Go.Proofs.YtakckmelojobkaaGreatDoor.pce
