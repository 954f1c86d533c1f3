/- GridsMay: what its grids pass. -/
import Derived.Test.YteekihhngjbjgaaGrdTree
import Derived.StillTailTactics
namespace Go.Proofs.Yteekihhngjbjgaa.grd
open Go.RowKit Go.Lib
set_option linter.unusedVariables false
set_option linter.unusedSimpArgs false
set_option linter.unnecessarySimpa false
set_option linter.unusedSectionVars false

theorem Gr.take {w : World} {lo hi n c : Nat} {A : Option Addr} {ls : List (List UInt8)} (h : Gr w lo hi A n c ls) (p : Nat) (hp : p ≤ n) : Gr w lo hi A p c (ls.take p) := by
  obtain ⟨h1, h2, h3, vs, h4, h5, h6⟩ := h
  refine ⟨by rw [List.length_take]; omega, h2, by omega, vs.take p, by rw [List.length_take, List.length_take, h4], fun hn => ?_, fun i v l hv hl => ?_⟩
  · rw [List.length_take] at hn
    obtain ⟨b, off, e, a1, a2, a3⟩ := h5 (by omega)
    refine ⟨b, off, e, a1, a2, fun j u hj => a3 j u ?_⟩
    rw [List.getElem?_take] at hj
    split at hj
    · exact hj
    · cases hj
  · rw [List.getElem?_take] at hv hl
    split at hv
    · rename_i hi
      rw [if_pos hi] at hl
      exact h6 i v l hv hl
    · cases hv
theorem Gr.far {w : World} {lo hi n c : Nat} {A : Option Addr} {ls : List (List UInt8)} (h : Gr w lo hi A n c ls) {p : Addr} (hp : p.block < lo ∨ hi ≤ p.block) (u : Value) : Gr (w.setCell p u) lo hi A n c ls := h.keep fun b h1 h2 => Below.heap_setCell _ _ _ _ (by omega)
theorem size32W (W : World) : (Go.sizeOf 39).run Try.prog W = .ok 1 W := by kernel_rfl
theorem elem32 : Try.prog.elem 32 = 39 := by kernel_rfl
theorem head_rows (A : Option Addr) (n c m : Nat) (h : m ≤ c) (W : World) :
    (Instr.slice 32 (.slice A n c) none (some (.int .i64 (m : Int))) none).run Try.prog W = .ok (.slice A m c) W := by
  have hu : Try.prog.underlying 32 = some (.slice (Try.prog.elem 32)) := by rw [elem32]; exact Try.underlying32
  rw [run_slice_h (P := Try.prog) W 32 A n c hu .i64 (m : Int) (by omega) (by omega), elem32, size32W]
  simp only [Result.andThen, sliced, Int.toNat_natCast]
  cases A with
  | none => simp
  | some a => simp [add_zero_addr]
theorem may_row0 (n m : Nat) (h1 : 2 ≤ n) (h2 : n ≤ 60) (h3 : 8 ≤ m) (h4 : m ≤ 132) (r k : Int) : may ⟨n, m, blankC n m, r, k⟩ = hasB n m r k := by
  have hb := may_iff.1 (may_blank n m h1 h2 h3 h4)
  rw [Bool.eq_iff_iff, may_iff, has_iff]
  constructor
  · intro h; exact h.2.2.1
  · intro h; exact ⟨hb.1, hb.2.1, h, hb.2.2.2⟩
theorem may_x (n m : Nat) (h1 : 2 ≤ n) (h2 : n ≤ 60) (h3 : 8 ≤ m) (h4 : m ≤ 132) (r : Int) : may ⟨n, m, blankC n m, r, 0⟩ = (decide (0 ≤ r) && decide (r < n)) := by
  rw [may_row0 n m h1 h2 h3 h4, Bool.eq_iff_iff, has_iff]; simp; omega
theorem may_y (n m : Nat) (h1 : 2 ≤ n) (h2 : n ≤ 60) (h3 : 8 ≤ m) (h4 : m ≤ 132) (k : Int) : may ⟨n, m, blankC n m, 0, k⟩ = (decide (0 ≤ k) && decide (k < m)) := by
  rw [may_row0 n m h1 h2 h3 h4, Bool.eq_iff_iff, has_iff]; simp; omega
theorem may_z (n m : Nat) (h1 : 2 ≤ n) (h2 : n ≤ 60) (h3 : 8 ≤ m) (h4 : m ≤ 132) (p q : Nat) (hp : p < n) (hq : q < m) (b : UInt8) : may ⟨n, m, setAt (blankC n m) p q b, 0, 0⟩ = okB b := by
  have hg := may_blank n m h1 h2 h3 h4
  have hb := may_iff.1 hg
  rw [Bool.eq_iff_iff]
  constructor
  · intro h
    have h5 := (may_iff.1 h).2.2.2
    have hl : (setAt (blankC n m) p q b)[p]? = some ((List.replicate m 32).set q b) := by
      rw [setAt_get, if_pos rfl]; unfold blankC; rw [List.getElem?_replicate, if_pos hp]; rfl
    have h6 := (okRow_iff.1 (h5 _ (List.mem_of_getElem? hl))).2 b (List.mem_of_getElem? (i := q) (by rw [List.getElem?_set_self (by simpa using hq)]))
    exact h6
  · intro h
    refine may_iff.2 ⟨hb.1, ?_, hb.2.2.1, setAt_all _ _ _ h hb.2.2.2⟩
    show ((setAt (blankC n m) p q b).length : Int) = n
    rw [setAt_len]; exact hb.2.1
theorem may_s (n m : Nat) (p : Nat) (hp : p < n) : may ⟨n, m, (blankC n m).take p, 0, 0⟩ = false := by
  refine head_no _ _ _ _ _ ?_
  have e : decide ((((blankC n m).take p).length : Int) = (n : Int)) = false := by
    refine decide_eq_false ?_
    rw [List.length_take]; omega
  rw [e]; simp
theorem few_set (n m : Nat) (hn : n ≤ 60) (hm : m ≤ 132) (p q : Nat) (b : UInt8) : few (setAt (blankC n m) p q b) := by
  refine ⟨by rw [setAt_len]; simp [blankC]; omega, fun l hl => ?_⟩
  obtain ⟨i, hi⟩ := List.mem_iff_getElem?.1 hl
  have e := setAt_rowlen (blankC n m) p q b i
  unfold List.getD at e
  rw [hi, Option.getD_some] at e
  rw [e]
  cases h2 : (blankC n m)[i]? with
  | none => simp
  | some l' => exact (few_blank n m hn hm).2 l' (List.mem_of_getElem? h2)
theorem few_tk (n m : Nat) (hn : n ≤ 60) (hm : m ≤ 132) (p : Nat) : few ((blankC n m).take p) := by
  have h := few_blank n m hn hm
  exact ⟨by rw [List.length_take]; have := h.1; omega, fun l hl => h.2 l (List.mem_of_mem_take hl)⟩
end Go.Proofs.Yteekihhngjbjgaa.grd
