/- Splices: what three listed tables give the walks. -/
import Derived.Test.YtakckmelojobkaaDoorSplTops
namespace Go.Proofs.YtakckmelojobkaaDoor.v3
open Go.ChangeShapes Go.WideShapes Go.ChangeAt Go.WideMaps Go.WideElems Go.RowKit
set_option linter.unusedVariables false
set_option linter.unusedSimpArgs false

theorem gTabType : (Tryd.prog.globals[3]?).map (·.type) = some 122 := by kernel_rfl
theorem cells57 : Tryd.prog.cellsOf 104 = 1 := by kernel_rfl
theorem cells95 : Tryd.prog.cellsOf 122 = 20 := by kernel_rfl
abbrev laid3 : List (String × DataW Unit) := Rows.splicesApplyRow.laid
theorem laid3_is : laid3 = [("math/bits.deBruijn32tab", Rows.laid_math_bits_deBruijn32tab), ("math/bits.deBruijn64tab", Rows.laid_math_bits_deBruijn64tab), ("internal/strconv.uint64pow10", Lib.tabData .u64 Lib.pow10Tab)] := rfl
theorem door_met (os : Os) (args : Array Value) : laidMetH Tryd.prog laid3 ((World.doorLaid Tryd.prog 62 os).forCall (fun _ _ => 0) ⟨#[], args, []⟩).memory :=
  laidMetH_of_parts3 (fuel := 8) (laidMet_of_run' 8 (by kernel_rfl) (by kernel_rfl)) (by kernel_rfl) (by kernel_rfl)
theorem vars_of_laid {W : World} (h : laidMetH Tryd.prog laid3 W) : sps.VarT W.heap.size W := by
  rw [MakeChecks.laidMetH_plain _ _ _ (by kernel_rfl)] at h
  rw [laid3_is] at h
  have hT := Lib.tabIs_of_head num.gTab gTabType Tryd.underlying122 Tryd.underlying104 cells57 cells95 h.tail.tail
  have h6 : 3 < W.heap.size := by
    rcases Nat.lt_or_ge 3 W.heap.size with h | h
    · exact h
    · exfalso
      have hT' := hT
      unfold Lib.TabIs World.var? at hT'
      rw [num.gTab] at hT'
      simp [Array.getElem?_eq_none h] at hT'
  exact ⟨h6, hT⟩
end Go.Proofs.YtakckmelojobkaaDoor.v3
