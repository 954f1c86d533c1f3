/- Splices: what five listed variables give the walks. -/
import Derived.Test.YtakckmelojobkaaDoorSplTops
import Derived.Test.YtakckmelojobkaaDoorNumNumber
namespace Go.Proofs.YtakckmelojobkaaDoor.v5
open Go.ChangeShapes Go.WideShapes Go.ChangeAt Go.WideMaps Go.WideElems Go.RowKit
set_option linter.unusedVariables false
set_option linter.unusedSimpArgs false

theorem gTabType : (Tryd.prog.globals[3]?).map (·.type) = some 122 := by kernel_rfl
theorem cells57 : Tryd.prog.cellsOf 104 = 1 := by kernel_rfl
theorem cells95 : Tryd.prog.cellsOf 122 = 20 := by kernel_rfl
theorem gES : Tryd.prog.globalNamed "strconv.ErrSyntax" = some 0 := by kernel_rfl
theorem gER : Tryd.prog.globalNamed "strconv.ErrRange" = some 1 := by kernel_rfl
theorem gESType : (Tryd.prog.globals[0]?).map (·.type) = some 81 := by kernel_rfl
theorem gERType : (Tryd.prog.globals[1]?).map (·.type) = some 81 := by kernel_rfl
theorem cells109 : Tryd.prog.cellsOf 154 = 1 := by kernel_rfl
theorem cells9 : Tryd.prog.cellsOf 9 = 1 := by kernel_rfl
theorem starName : "*" ++ "errors.errorString" = "*errors.errorString" := by decide
theorem row107 (u : TypeId) (h : Tryd.prog.typeName? 3 u = some "*errors.errorString") : u = 152 :=
  typeName_ptr_named (nm := "errors.errorString") (by rw [starName]; kernel_rfl) (by kernel_rfl) (by decide) u (by rw [starName]; exact h)
abbrev laid5 : List (String × DataW Unit) := Rows.splicesFormRow.laid
theorem laid5_is : laid5 = [("math/bits.deBruijn32tab", Rows.laid_math_bits_deBruijn32tab), ("math/bits.deBruijn64tab", Rows.laid_math_bits_deBruijn64tab), ("internal/strconv.uint64pow10", Lib.tabData .u64 Lib.pow10Tab),
    ("strconv.ErrRange", .iface "*errors.errorString" (.ptr (.agg [.lit (.string [118, 97, 108, 117, 101, 32, 111, 117, 116, 32, 111, 102, 32, 114, 97, 110, 103, 101])]))),
    ("strconv.ErrSyntax", .iface "*errors.errorString" (.ptr (.agg [.lit (.string [105, 110, 118, 97, 108, 105, 100, 32, 115, 121, 110, 116, 97, 120])])))] := rfl
theorem door_met (os : Os) (args : Array Value) : laidMetH Tryd.prog laid5 ((World.doorLaid Tryd.prog 62 os).forCall (fun _ _ => 0) ⟨#[], args, []⟩).memory :=
  laidMetH_of_parts3 (fuel := 8) (laidMet_of_run' 8 (by kernel_rfl) (by kernel_rfl)) (by kernel_rfl) (by kernel_rfl)
theorem vars_of_laid {W : World} (h : laidMetH Tryd.prog laid5 W) : num.Vars W.heap.size W := by
  rw [MakeChecks.laidMetH_plain _ _ _ (by kernel_rfl)] at h
  rw [laid5_is] at h
  have h2 := h.tail.tail
  have hT := Lib.tabIs_of_head num.gTab gTabType Tryd.underlying122 Tryd.underlying104 cells57 cells95 h2
  obtain ⟨aR, aS, s0, s1, c0, c1, t0, t1, hv0, hv1, hc0, _, _, hc1, _, _, hne, hb0, hb1⟩ := laid_sentinels2 h2.tail gER gERType gES gESType Tryd.underlying81 row107 Tryd.underlying152 Tryd.underlying154 rfl rfl Tryd.underlying9 cells109 cells9
  have lt_of : ∀ {b : Nat} {o : Obj}, W.heap[b]? = some o → b < W.heap.size := fun {b o} hb => by
    rcases Nat.lt_or_ge b W.heap.size with h | h
    · exact h
    · rw [Array.getElem?_eq_none h] at hb; cases hb
  have lt_of_cell : ∀ {b : Nat} {v : Value}, W.cell? ⟨b, 0, none⟩ = some v → b < W.heap.size := fun {b v} hb => World.block_lt_of_cell? _ _ hb
  have h6 : 3 < W.heap.size := by
    rcases Nat.lt_or_ge 3 W.heap.size with h | h
    · exact h
    · exfalso
      have hT' := hT
      unfold Lib.TabIs World.var? at hT'
      rw [num.gTab] at hT'
      simp [Array.getElem?_eq_none h] at hT'
  have hS : W.cell? ⟨0, 0, none⟩ = some (.iface 152 (.pointer (some aS))) := by have h0 := World.var?_cell gES hv1 0; simpa using h0
  have hR : W.cell? ⟨1, 0, none⟩ = some (.iface 152 (.pointer (some aR))) := by have h0 := World.var?_cell gER hv0 0; simpa using h0
  exact ⟨⟨lt_of_cell hS, lt_of_cell hR, h6⟩, hT, aS, aR, c1, c0, t1, t0, hS, hR, hne.symm, lt_of hb1, lt_of hb0, hb1, hb0⟩
end Go.Proofs.YtakckmelojobkaaDoor.v5
