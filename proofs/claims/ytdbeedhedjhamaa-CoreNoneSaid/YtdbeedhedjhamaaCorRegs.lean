/- Core: registers of which nothing but the clone is asked: maps.Clone, Clone, New. -/
import Derived.Test.YtdbeedhedjhamaaCorAsk
import Derived.Shelf.SlMaps.Clone
import Derived.Carry
namespace Go.Proofs.Ytdbeedhedjhamaa.cor
open Go.RowKit Go.Lib pce sps mrk
set_option linter.unusedVariables false
set_option linter.unusedSimpArgs false
set_option linter.unnecessarySimpa false
set_option linter.unusedSectionVars false

theorem undMap : Try.prog.underlying 70 = some (.map 5 92) := by kernel_rfl
set_option maxHeartbeats 2000000 in
set_option maxRecDepth 100000 in
theorem mclone_is (b : Nat) (es : Array MapEntry) (ck : Nat) (w : World) (hb : w.heap[b]? = some (.map es ck)) :
    Calls Try.prog 49 #[.map (some b)] w fun e w' => e = .returned (.map (some w.heap.size)) ∧ w' = w.alloc (.map es ck) := by
  have hq := fun w => run_eql_map_nil_sl (P := Try.prog) w 70 _ _ (some b) undMap
  go_enter Try.func49, Try.ntmps49
  go_wp2
  rw [run_callFunc_extern Try.func62 (by kernel_rfl) (by kernel_rfl) (by kernel_rfl) (e := Extern.MapsClone.clone) (by kernel_rfl), run_maps_clone_sl w 70 hb]
  simp only [Result.andThen]
  rw [Oper.upon_value]
  go_wp2
  rw [run_typeAssert_map_sl _ 70 20 _ _ _ undMap]
  simp only [Result.andThen]
  rw [Oper.upon_value]
  go_wp2
  go_ret
  exact ⟨rfl, rfl⟩
theorem rnone_is (rb mb : Nat) (w : World) (h : At w rb 72 #[.map (some mb)]) :
    Calls Try.prog 48 #[.pointer (some ⟨rb, 0, none⟩)] w fun e w' => e = .returned (.bool false) ∧ w = w' := by
  have c0 := h.cell 0
  have hq := fun w => run_eql_map_nil_sl (P := Try.prog) w 70 _ _ (some mb) undMap
  clear h
  go_enter Try.func48, Try.ntmps48
  go_wp2
  go_ret
  exact ⟨rfl, rfl⟩
/-- Clone: registers of their own. -/
theorem rclone_is (w : World) (G : Nat → Prop) (rb : Nat) (h : Rg w G rb) (hG : ∀ b, G b → b < w.heap.size) :
    Calls Try.prog 34 #[.pointer (some ⟨rb, 0, none⟩)] w fun e w' => ∃ kb, e = .returned (.pointer (some ⟨kb, 0, none⟩)) ∧ Hid (w.heap.size ≤ kb ∧ Rg w' G kb) ∧ Below w.heap.size w w' := by
  obtain ⟨mb, es, ck, h1, h2, h3⟩ := h
  have KN := Lib.hid (rnone_is rb mb w h1)
  have KC := Lib.hid (mclone_is mb es ck w h3)
  have c0 := h1.cell 0
  have HG := Lib.hid hG
  clear h1 h2 h3 hG
  go_enter Try.func34, Try.ntmps34
  go_wp2_with (first
    | (go_at_call 48; (with_reducible refine KN.out.mono ?_); rintro e w1 ⟨rfl, rfl⟩)
    | (go_at_call 49; (with_reducible refine KC.out.mono ?_); rintro e w2 ⟨rfl, rfl⟩))
  go_ret
  refine ⟨w.heap.size + 1, ?_, ⟨by omega, w.heap.size, es, ck, ?_, fun hg => ?_, ?_⟩, ?_⟩
  · simp
  · have := At.new (w.alloc (.map es ck)) 72 #[.map (some w.heap.size)]
    rwa [World.size_alloc] at this
  · have := HG.out _ hg; omega
  · exact (Below.heap_alloc _ _ _ (by simp)).trans (heap_alloc_new w _)
  · exact ((Below.refl _ w).alloc (Nat.le_refl _) _).alloc (by simp) _
theorem rnew_is (w : World) :
    Calls Try.prog 40 #[] w fun e w' => e = .returned (.pointer (some ⟨w.heap.size + 1, 0, none⟩)) ∧ w' = (w.alloc (.map #[] 0)).alloc (.cells #[.map (some w.heap.size)] 72) := by
  have hmm := @run_makeMap Try.prog
  go_enter Try.func40, Try.ntmps40
  go_wp2
  go_ret
  exact ⟨rfl, rfl⟩
end Go.Proofs.Ytdbeedhedjhamaa.cor
