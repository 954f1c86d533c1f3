/- Pieces: a list of splices that came in; the law's Much. -/
import Derived.Test.YtpopnplncgpfkaaPceRef2
namespace Go.Proofs.Ytpopnplncgpfkaa.pce
open Go.RowKit Go.Lib
set_option linter.unusedVariables false
set_option linter.unusedSimpArgs false
set_option linter.unnecessarySimpa false
set_option linter.unusedSectionVars false

/-- A splice: where, how many go, what is laid there, and where that stands. -/
structure Ct where
  a : Int
  d : Int
  A : Option Addr
  c : Nat
  ins : List ByteArray
def Ct.cells (t : Ct) : List Value := [.int .i64 t.a, .int .i64 t.d, .slice t.A t.ins.length t.c]
def flat (ts : List Ct) : List Value := ts.flatMap Ct.cells
theorem flat_length (ts : List Ct) : (flat ts).length = ts.length * 3 := by
  induction ts with
  | nil => rfl
  | cons d ds ih => simp only [flat, List.flatMap_cons, List.length_append] at ih ⊢; rw [ih, List.length_cons]; simp [Ct.cells]; omega
theorem flat_get : ∀ (l : List Ct) (i j : Nat) (d : Ct), l[i]? = some d → j < 3 → (flat l)[i * 3 + j]? = d.cells[j]?
  | e :: ds, 0, j, d, h, hj => by
    simp at h; subst h
    simp only [flat, List.flatMap_cons]
    rw [List.getElem?_append_left (by simp [Ct.cells]; omega)]
    congr 1; omega
  | e :: ds, i + 1, j, d, h, hj => by
    have ih := flat_get ds i j d (by simpa using h) hj
    simp only [flat, List.flatMap_cons] at ih ⊢
    rw [List.getElem?_append_right (by simp [Ct.cells]; omega)]
    rw [← ih]
    congr 1
    simp [Ct.cells]; omega
structure CtOk (w : World) (F : Nat → Prop) (t : Ct) : Prop where
  a1 : -9223372036854775808 ≤ t.a
  a2 : t.a ≤ 9223372036854775807
  d1 : -9223372036854775808 ≤ t.d
  d2 : t.d ≤ 9223372036854775807
  lst : Lst w F t.A t.ins.length t.c t.ins
  size : ∀ z ∈ t.ins, z.size ≤ maxLen
  few : t.ins.length ≤ maxLen
/-- The splices ts behind A. -/
structure Cuts (w : World) (F : Nat → Prop) (A : Option Addr) (ts : List Ct) : Prop where
  row : VRd w F A (flat ts)
  each : ∀ t ∈ ts, CtOk w F t
section
variable {w w' : World} {F F' : Nat → Prop} {A : Option Addr} {ts : List Ct} {t : Ct}
theorem CtOk.keep (h : CtOk w F t) (hk : ∀ b, F b → b < w.heap.size → w'.heap[b]? = w.heap[b]?) (hs : w.heap.size ≤ w'.heap.size) : CtOk w' F t := ⟨h.a1, h.a2, h.d1, h.d2, h.lst.keep hk hs, h.size, h.few⟩
theorem Cuts.keep (h : Cuts w F A ts) (hk : ∀ b, F b → b < w.heap.size → w'.heap[b]? = w.heap[b]?) (hs : w.heap.size ≤ w'.heap.size) : Cuts w' F A ts := ⟨h.row.keep hk hs, fun t ht => (h.each t ht).keep hk hs⟩
theorem Cuts.below (h : Cuts w F A ts) (hB : Below w.heap.size w w') : Cuts w' F A ts := h.keep (fun b _ hb => hB.block b hb) hB.size
/-- The cells of one of them. -/
theorem Cuts.at (h : Cuts w F A ts) {i : Nat} (hi : ts[i]? = some t) : ∃ b off, A = some ⟨b, off, none⟩ ∧ w.cell? ⟨b, off + i * 3, none⟩ = some (.int .i64 t.a) ∧ w.cell? ⟨b, off + i * 3 + 1, none⟩ = some (.int .i64 t.d) ∧ w.cell? ⟨b, off + i * 3 + 2, none⟩ = some (.slice t.A t.ins.length t.c) := by
  have hl := (List.getElem?_eq_some_iff.1 hi).1
  obtain ⟨b, off, e, _, _, hc⟩ := h.row (by rw [flat_length]; omega)
  refine ⟨b, off, e, ?_, ?_, ?_⟩
  · have := hc (i * 3 + 0) _ (by rw [flat_get ts i 0 t hi (by omega)]; rfl)
    simpa using this
  · have := hc (i * 3 + 1) _ (by rw [flat_get ts i 1 t hi (by omega)]; rfl)
    rwa [← Nat.add_assoc] at this
  · have := hc (i * 3 + 2) _ (by rw [flat_get ts i 2 t hi (by omega)]; rfl)
    rwa [← Nat.add_assoc] at this
end

/-- Yes; or no, and they are few. -/
def MuchSays (ts : List Ct) (w : World) (e : Ending) (w' : World) : Prop :=
  (e = .returned (.bool true) ∨ (e = .returned (.bool false) ∧ ts.length ≤ 60 ∧ ∀ t ∈ ts, t.ins.length ≤ 2100 ∧ tot t.ins ≤ 5000)) ∧ w = w'

set_option maxHeartbeats 2000000 in
set_option maxRecDepth 100000 in
theorem much_is (w : World) (F : Nat → Prop) (A : Option Addr) (n c : Nat) (ts : List Ct) (hn : n = ts.length) (hb : n ≤ maxLen) (h : Cuts w F A ts) :
    Calls Try.prog 11 #[.slice A n c] w (MuchSays ts w) := by
  have HC := Lib.hid h
  have HN := Lib.hid hn
  unfold maxLen at hb
  clear h hn
  go_enter Try.func11, Try.ntmps11
  go_wp2
  go_loopg [3, 4] n (fun g s3 s4 wr => ∃ (k : Nat) (r : Int), k ≤ n ∧ n - k ≤ g ∧ s4 = .int .i64 k ∧ wr = w ∧ s3 = .int .i64 r ∧ ∀ t ∈ ts.take k, t.ins.length ≤ 2100 ∧ tot t.ins ≤ 5000)
  case atStart => exact ⟨0, 0, Nat.zero_le _, by omega, rfl, rfl, rfl, by simp⟩
  case round =>
    obtain ⟨k, r, hk, hg, rfl, hwr, rfl, heq⟩ := hrel
    have hwr := hwr.symm
    subst hwr
    have HE := Lib.hid heq
    clear heq
    by_cases hlt : k < n
    · obtain ⟨t, ht⟩ : ∃ t, ts[k]? = some t := ⟨_, List.getElem?_eq_getElem (by rw [← HN.out]; exact hlt)⟩
      have HT := Lib.hid ht
      obtain ⟨b, off, rfl, _, _, g2⟩ := HC.out.at ht
      have hok := HC.out.each t (List.mem_of_getElem? ht)
      have hfew := hok.few
      unfold maxLen at hfew
      have HOK := Lib.hid hok
      obtain ⟨z, hz⟩ : ∃ z, t.ins.length = z := ⟨_, rfl⟩
      have HZ := Lib.hid hz
      rw [hz] at g2 hfew
      clear ht hok hz
      have C := Lib.hid (fun (W : World) (hW : SRd W w.heap.size t.A t.ins) => great t.A t.c w.heap.size z 2100 5000 t.ins W HZ.out.symm (by omega) (by omega) (by omega) HOK.out.size hW)
      go_wp2_with fail
      go_at_call 10
      refine (C.out _ HOK.out.lst.srd).mono ?_
      rintro e w' ⟨(rfl | ⟨rfl, g3, g4⟩), rfl⟩
      · go_wp2
        go_ret
        exact ⟨.inl rfl, rfl⟩
      · have G := Lib.hid (And.intro g3 g4)
        have hz2 : z ≤ 2100 := by rw [← HZ.out]; exact g3
        clear g3 g4
        go_wp2
        go_roundg (n - (k + 1))
        case measure => omega
        case rel =>
          refine ⟨k + 1, _, by omega, by omega, by go_num, rfl, rfl, fun t' ht' => ?_⟩
          obtain ⟨hkl, hkt⟩ := List.getElem?_eq_some_iff.1 HT.out
          rw [List.take_succ_eq_append_getElem hkl, List.mem_append, hkt] at ht'
          rcases ht' with ht' | ht'
          · exact HE.out t' ht'
          · rw [List.mem_singleton.1 ht']; exact G.out
    · have hkn : k = n := by omega
      subst hkn
      by_cases h60 : (k : Int) > 60
      · go_wp2
        go_ret
        exact ⟨.inl rfl, rfl⟩
      · by_cases h4 : r > 4000
        · go_wp2
          go_ret
          exact ⟨.inl rfl, rfl⟩
        · go_wp2
          go_ret
          refine ⟨.inr ⟨rfl, by rw [← HN.out]; omega, fun t ht => HE.out t (by rw [HN.out, List.take_length]; exact ht)⟩, rfl⟩
end Go.Proofs.Ytpopnplncgpfkaa.pce
