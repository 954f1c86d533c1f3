/- Pieces: a list of splices that came in; the law's Much. -/
import Derived.Test.YtdbeedhedjhamaaPceSplice
import Derived.Deep.RegionLaw
import Derived.Deep.RegionHeld3
/-! Pieces: the document's Lines and Splice of a list, walked. -/
namespace Go.Proofs.Ytdbeedhedjhamaa.pce
open Go.RowKit Go.Lib
set_option linter.unusedVariables false
set_option linter.unusedSimpArgs false
set_option linter.unnecessarySimpa false
set_option linter.unusedSectionVars false

/-- A list of texts behind A, in a block of F. -/
structure Lst (w : World) (F : Nat → Prop) (A : Option Addr) (n c : Nat) (zs : List ByteArray) : Prop where
  len : n = zs.length
  room : n ≤ c
  nil : A = none → c = 0
  row : VRd w F A (zs.map Value.string)
section
variable {w w' : World} {F F' : Nat → Prop} {A : Option Addr} {n c : Nat} {zs : List ByteArray} {v : Value}
theorem Lst.keep (h : Lst w F A n c zs) (hk : ∀ b, F b → b < w.heap.size → w'.heap[b]? = w.heap[b]?) (hs : w.heap.size ≤ w'.heap.size) : Lst w' F A n c zs := ⟨h.len, h.room, h.nil, h.row.keep hk hs⟩
theorem Lst.mono (h : Lst w F A n c zs) (hF : ∀ b, F b → b < w.heap.size → F' b) : Lst w F' A n c zs := ⟨h.len, h.room, h.nil, h.row.mono hF⟩
theorem Lst.below (h : Lst w F A n c zs) (hB : Below w.heap.size w w') : Lst w' F A n c zs := ⟨h.len, h.room, h.nil, h.row.below hB⟩
theorem Lst.srd (h : Lst w F A n c zs) : SRd w w.heap.size A zs := h.row.srd
theorem Row.lst (h : Row w zs v w') : ∃ A n c, v = .slice A n c ∧ Lst w' (w.heap.size ≤ ·) A n c zs ∧ Below w.heap.size w w' := by
  obtain ⟨B, k, c, rfl, hk, hown, hB⟩ := h
  obtain ⟨_, _, hv, hnil, hkc⟩ := own_form' hown
  injection hv with e1 e2 e3
  subst e1 e3
  exact ⟨B, k, c, rfl, ⟨hk, hkc, hnil, VRd.of_own hown⟩, hB⟩
end

theorem size9 (W : World) : (Go.sizeOf 9).run Try.prog W = .ok 1 W := by kernel_rfl
theorem elemStr : Try.prog.elem 22 = 9 := by kernel_rfl
theorem add_zero_addr (a : Addr) : a.add 0 = a := by cases a; rfl
theorem head_slice (A : Option Addr) (n c m : Nat) (h : m ≤ c) (W : World) :
    (Instr.slice 22 (.slice A n c) none (some (.int .i64 (m : Int))) none).run Try.prog W = .ok (.slice A m c) W := by
  have hu : Try.prog.underlying 22 = some (.slice (Try.prog.elem 22)) := by rw [elemStr]; exact Try.underlying22
  rw [run_slice_h (P := Try.prog) W 22 A n c hu .i64 (m : Int) (by omega) (by omega), elemStr, size9]
  simp only [Result.andThen, sliced, Int.toNat_natCast]
  cases A with
  | none => simp
  | some a => simp [add_zero_addr]
/-- Where a tail lies. -/
def tailA (A : Option Addr) (c m : Nat) : Option Addr := if c = m then A else A.map (·.add (m * 1))
theorem tail_slice (A : Option Addr) (n c m k : Nat) (h : n = m + k) (W : World) :
    (Instr.slice 22 (.slice A n c) (some (.int .i64 (m : Int))) none none).run Try.prog W = .ok (.slice (tailA A c m) k (c - m)) W := by
  have hu : Try.prog.underlying 22 = some (.slice (Try.prog.elem 22)) := by rw [elemStr]; exact Try.underlying22
  rw [run_slice_l (P := Try.prog) W 22 A n c hu .i64 (m : Int) (by omega) (by omega), elemStr, size9]
  simp only [Result.andThen, sliced, Int.toNat_natCast, tailA]
  rw [show n - m = k by omega]
theorem srd_head {w : World} {n₀ : Nat} {A : Option Addr} {xs : List ByteArray} (h : SRd w n₀ A xs) (k : Nat) : SRd w n₀ A (xs.take k) := fun hn => by
  rw [List.length_take] at hn
  obtain ⟨b, off, e, hb, hc⟩ := h (by omega)
  refine ⟨b, off, e, hb, fun j hj => ?_⟩
  rw [List.length_take] at hj
  rw [hc j (by omega)]
  simp [List.getD, List.getElem?_take, show j < k by omega]
theorem srd_tail {w : World} {n₀ : Nat} {A : Option Addr} {xs : List ByteArray} {c : Nat} (h : SRd w n₀ A xs) (m : Nat) (hc : xs.length ≤ c) : SRd w n₀ (tailA A c m) (xs.drop m) := fun hn => by
  rw [List.length_drop] at hn
  obtain ⟨b, off, rfl, hb, hcell⟩ := h (by omega)
  unfold tailA
  rw [if_neg (by omega)]
  refine ⟨b, off + m, by simp [Addr.add], hb, fun j hj => ?_⟩
  rw [List.length_drop] at hj
  have := hcell (m + j) (by omega)
  rw [← Nat.add_assoc] at this
  rw [this]
  simp [List.getD, List.getElem?_drop]
theorem tail_nil {A : Option Addr} {c m : Nat} (h : A = none → c = 0) : tailA A c m = none → c - m = 0 := fun e => by
  unfold tailA at e
  split at e
  · omega
  · have : A = none := by cases A <;> simp_all
    have := h this; omega

theorem step_append_texts {w : World} {ops : Array Oper} {o : Oper} {a : Act} {K : Act → World → Prop} {Q : Exit → Act → World → Prop} {E : Prop} (hgd : o.guard = none) (s x : Operand)
    (ho : o.op = .call { callee := .builtin .append, args := #[s, x], argTypes := #[22, 22] })
    (base : Nat) (v : Value) (n : Nat) (xs : List Value) (hs : a.eval s = v) (hown : w.ownsRow base 9 1 v n xs)
    (A : Option Addr) (m c n₀ : Nat) (zs : List ByteArray) (hx : a.eval x = .slice A m c) (hm : m = zs.length) (hA : A = none → c = 0) (hr : SRd w n₀ A zs)
    (h63 : n + m ≤ 1000000) (hbase : base ≤ w.heap.size)
    (h : ∀ v' w', w'.ownsRow base 9 1 v' (n + m) (xs ++ zs.map Value.string) → w.grownBy w' v.ownBlock → K (a.put o.dst v') w') :
    if Region.wanted o (yielded ops a.tmps) = true then Oper.wp Try.prog o a w K Q else E := by
  have hw : Region.wanted o (yielded ops a.tmps) = true := by simp [Region.wanted, hgd]
  rw [if_pos hw]
  obtain ⟨i0, hi, hz0, hz1, hz2⟩ := info_parts info9
  have hml : (1000000 : Nat) ≤ maxLen := by unfold maxLen; omega
  rcases A with _ | ad
  · obtain rfl : c = 0 := hA rfl
    obtain rfl : m = 0 := by
      rcases Nat.eq_zero_or_pos m with h0 | h0
      · exact h0
      · obtain ⟨_, _, h, _⟩ := hr (by omega)
        cases h
    obtain rfl : zs = [] := List.eq_nil_of_length_eq_zero hm.symm
    have hrun := run_append_owned_none (P := Try.prog) (w := w) base 22 o.type 9 i0 1 Try.underlying22 hi v n xs hown
    unfold Oper.wp execOp
    simp only [ho, resolve, invoke, builtin, Sem.run_bind, Sem.run_pure, Result.andThen_ok, List.map_toArray, List.map_cons, List.map_nil, hs, hx, hrun]
    exact h v w (by simpa using hown) (World.grownBy.refl w _)
  · obtain ⟨v', w', hrun, h2, h3, _⟩ := run_append_own (P := Try.prog) w base 22 o.type 9 i0 (.string ⟨#[]⟩) 1 16 Try.underlying22 hi hz0 hz1 hz2 rfl (by decide) v n xs hown ad m c (zs.map Value.string) (by rw [List.length_map]; omega) hr.cells (one_strs _) (by omega) (by omega) hbase
    unfold Oper.wp execOp
    simp only [ho, resolve, invoke, builtin, Sem.run_bind, Sem.run_pure, Result.andThen_ok, List.map_toArray, List.map_cons, List.map_nil, hs, hx, hrun]
    exact h v' w' h2 h3
end Go.Proofs.Ytdbeedhedjhamaa.pce

/-! Pieces: the document's Splice of a list, walked. -/
namespace Go.Proofs.Ytdbeedhedjhamaa.pce
open Go.RowKit Go.Lib
set_option linter.unusedVariables false
set_option linter.unusedSimpArgs false
set_option linter.unnecessarySimpa false
set_option linter.unusedSectionVars false

theorem owns_drew {w : World} {base n : Nat} {e : TypeId} {v : Value} {xs : List Value} (h : w.ownsRow base e 1 v n xs) : w.drew.ownsRow base e 1 v n xs := h
def More (p : Nat) (wb W : World) : Prop := Below p wb W
theorem More.to {p : Nat} {wb W : World} (h : More p wb W) : Below p wb W := h
theorem eq_two {k : Int} (h : k = 2) : (k == 2) = true := by subst h; rfl

/-- An error, or the new list. -/
def MoreSays (w : World) (L ins : List ByteArray) (a d n m : Nat) (k : Int) (e : Ending) (w' : World) : Prop := Below w.heap.size w w' ∧
  (((k ≠ 0 ∨ 2000 < n - d + m) ∧ e = .returned (.tuple #[.slice none 0 0, .int .i64 3])) ∨ (k = 0 ∧ n - d + m ≤ 2000 ∧ ∃ v, e = .returned (.tuple #[v, .int .i64 0]) ∧ Row w (spl L a d ins) v w'))
end Go.Proofs.Ytdbeedhedjhamaa.pce

/-! Pieces: a list of splices that came in; the law's Much. -/
namespace Go.Proofs.Ytdbeedhedjhamaa.pce
open Go.RowKit Go.Lib
set_option linter.unusedVariables false
set_option linter.unusedSimpArgs false
set_option linter.unnecessarySimpa false
set_option linter.unusedSectionVars false

/-- A splice: where, how many go, what is laid there, and where that stands. -/
structure Ct where
  a : Int
  d : Int
  A : Option Addr
  c : Nat
  ins : List ByteArray
def Ct.cells (t : Ct) : List Value := [.int .i64 t.a, .int .i64 t.d, .slice t.A t.ins.length t.c]
def flat (ts : List Ct) : List Value := ts.flatMap Ct.cells
theorem flat_length (ts : List Ct) : (flat ts).length = ts.length * 3 := by
  induction ts with
  | nil => rfl
  | cons d ds ih => simp only [flat, List.flatMap_cons, List.length_append] at ih ⊢; rw [ih, List.length_cons]; simp [Ct.cells]; omega
theorem flat_get : ∀ (l : List Ct) (i j : Nat) (d : Ct), l[i]? = some d → j < 3 → (flat l)[i * 3 + j]? = d.cells[j]?
  | e :: ds, 0, j, d, h, hj => by
    simp at h; subst h
    simp only [flat, List.flatMap_cons]
    rw [List.getElem?_append_left (by simp [Ct.cells]; omega)]
    congr 1; omega
  | e :: ds, i + 1, j, d, h, hj => by
    have ih := flat_get ds i j d (by simpa using h) hj
    simp only [flat, List.flatMap_cons] at ih ⊢
    rw [List.getElem?_append_right (by simp [Ct.cells]; omega)]
    rw [← ih]
    congr 1
    simp [Ct.cells]; omega
structure CtOk (w : World) (F : Nat → Prop) (t : Ct) : Prop where
  a1 : -9223372036854775808 ≤ t.a
  a2 : t.a ≤ 9223372036854775807
  d1 : -9223372036854775808 ≤ t.d
  d2 : t.d ≤ 9223372036854775807
  lst : Lst w F t.A t.ins.length t.c t.ins
  size : ∀ z ∈ t.ins, z.size ≤ maxLen
  few : t.ins.length ≤ maxLen
/-- The splices ts behind A. -/
structure Cuts (w : World) (F : Nat → Prop) (A : Option Addr) (ts : List Ct) : Prop where
  row : VRd w F A (flat ts)
  each : ∀ t ∈ ts, CtOk w F t
section
variable {w w' : World} {F F' : Nat → Prop} {A : Option Addr} {ts : List Ct} {t : Ct}
theorem CtOk.keep (h : CtOk w F t) (hk : ∀ b, F b → b < w.heap.size → w'.heap[b]? = w.heap[b]?) (hs : w.heap.size ≤ w'.heap.size) : CtOk w' F t := ⟨h.a1, h.a2, h.d1, h.d2, h.lst.keep hk hs, h.size, h.few⟩
theorem Cuts.keep (h : Cuts w F A ts) (hk : ∀ b, F b → b < w.heap.size → w'.heap[b]? = w.heap[b]?) (hs : w.heap.size ≤ w'.heap.size) : Cuts w' F A ts := ⟨h.row.keep hk hs, fun t ht => (h.each t ht).keep hk hs⟩
theorem Cuts.below (h : Cuts w F A ts) (hB : Below w.heap.size w w') : Cuts w' F A ts := h.keep (fun b _ hb => hB.block b hb) hB.size
/-- The cells of one of them. -/
theorem Cuts.at (h : Cuts w F A ts) {i : Nat} (hi : ts[i]? = some t) : ∃ b off, A = some ⟨b, off, none⟩ ∧ w.cell? ⟨b, off + i * 3, none⟩ = some (.int .i64 t.a) ∧ w.cell? ⟨b, off + i * 3 + 1, none⟩ = some (.int .i64 t.d) ∧ w.cell? ⟨b, off + i * 3 + 2, none⟩ = some (.slice t.A t.ins.length t.c) := by
  have hl := (List.getElem?_eq_some_iff.1 hi).1
  obtain ⟨b, off, e, _, _, hc⟩ := h.row (by rw [flat_length]; omega)
  refine ⟨b, off, e, ?_, ?_, ?_⟩
  · have := hc (i * 3 + 0) _ (by rw [flat_get ts i 0 t hi (by omega)]; rfl)
    simpa using this
  · have := hc (i * 3 + 1) _ (by rw [flat_get ts i 1 t hi (by omega)]; rfl)
    rwa [← Nat.add_assoc] at this
  · have := hc (i * 3 + 2) _ (by rw [flat_get ts i 2 t hi (by omega)]; rfl)
    rwa [← Nat.add_assoc] at this
end


end Go.Proofs.Ytdbeedhedjhamaa.pce
