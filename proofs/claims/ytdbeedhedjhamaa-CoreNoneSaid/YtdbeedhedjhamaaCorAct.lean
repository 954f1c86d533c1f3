/- Core: a list of acts that came in; the law's Beyond. -/
import Derived.Test.YtdbeedhedjhamaaCorLives
import Derived.Test.YtdbeedhedjhamaaLgsBeyond
namespace Go.Proofs.Ytdbeedhedjhamaa.cor
open Go.RowKit Go.Lib pce sps mrk
set_option linter.unusedVariables false
set_option linter.unusedSimpArgs false
set_option linter.unnecessarySimpa false
set_option linter.unusedSectionVars false

/-- An act: what is done, a splice, a line, a letter, a text. -/
structure Ac where
  kind : Nat
  t : Ct
  at_ : Int
  letter : Nat
  text : ByteArray
def Ac.cells (x : Ac) : List Value := [.int .u8 x.kind, .int .i64 x.t.a, .int .i64 x.t.d, .slice x.t.A x.t.ins.length x.t.c, .int .i64 x.at_, .int .u8 x.letter, .string x.text]
def flatA (xs : List Ac) : List Value := xs.flatMap Ac.cells
theorem flatA_length (xs : List Ac) : (flatA xs).length = xs.length * 7 := by
  induction xs with
  | nil => rfl
  | cons d ds ih => simp only [flatA, List.flatMap_cons, List.length_append] at ih ⊢; rw [ih, List.length_cons]; simp [Ac.cells]; omega
theorem flatA_get : ∀ (l : List Ac) (i j : Nat) (d : Ac), l[i]? = some d → j < 7 → (flatA l)[i * 7 + j]? = d.cells[j]?
  | e :: ds, 0, j, d, h, hj => by
    simp at h; subst h
    simp only [flatA, List.flatMap_cons]
    rw [List.getElem?_append_left (by simp [Ac.cells]; omega)]
    congr 1; omega
  | e :: ds, i + 1, j, d, h, hj => by
    have ih := flatA_get ds i j d (by simpa using h) hj
    simp only [flatA, List.flatMap_cons] at ih ⊢
    rw [List.getElem?_append_right (by simp [Ac.cells]; omega)]
    rw [← ih]
    congr 1
    simp [Ac.cells]; omega
structure AcOk (w : World) (F : Nat → Prop) (x : Ac) : Prop where
  kind : x.kind < 256
  t : CtOk w F x.t
  a1 : -9223372036854775808 ≤ x.at_
  a2 : x.at_ ≤ 9223372036854775807
  letter : x.letter < 256
  text : x.text.size ≤ maxLen
/-- The acts xs behind A. -/
structure Acs (w : World) (F : Nat → Prop) (A : Option Addr) (xs : List Ac) : Prop where
  row : VRd w F A (flatA xs)
  each : ∀ x ∈ xs, AcOk w F x
section
variable {w w' : World} {F F' : Nat → Prop} {A : Option Addr} {xs : List Ac} {x : Ac}
theorem AcOk.keep (h : AcOk w F x) (hk : ∀ b, F b → b < w.heap.size → w'.heap[b]? = w.heap[b]?) (hs : w.heap.size ≤ w'.heap.size) : AcOk w' F x := ⟨h.kind, h.t.keep hk hs, h.a1, h.a2, h.letter, h.text⟩
theorem Acs.keep (h : Acs w F A xs) (hk : ∀ b, F b → b < w.heap.size → w'.heap[b]? = w.heap[b]?) (hs : w.heap.size ≤ w'.heap.size) : Acs w' F A xs := ⟨h.row.keep hk hs, fun t ht => (h.each t ht).keep hk hs⟩
theorem Acs.below (h : Acs w F A xs) (hB : Below w.heap.size w w') : Acs w' F A xs := h.keep (fun b _ hb => hB.block b hb) hB.size
/-- The cells of one of them. -/
theorem Acs.at (h : Acs w F A xs) {i : Nat} (hi : xs[i]? = some x) : ∃ b off, A = some ⟨b, off, none⟩ ∧ F b ∧ b < w.heap.size ∧ ∀ j u, x.cells[j]? = some u → w.cell? ⟨b, off + i * 7 + j, none⟩ = some u := by
  have hl := (List.getElem?_eq_some_iff.1 hi).1
  obtain ⟨b, off, e, hF, hb, hc⟩ := h.row (by rw [flatA_length]; omega)
  refine ⟨b, off, e, hF, hb, fun j u hj => ?_⟩
  have hj7 : j < 7 := by have := (List.getElem?_eq_some_iff.1 hj).1; simpa [Ac.cells] using this
  have := hc (i * 7 + j) u (by rw [flatA_get xs i j x hi hj7]; exact hj)
  rwa [← Nat.add_assoc] at this
end
/-- They are more than is looked at; or no, and there are few, of few lines each. -/
def BeySays (xs : List Ac) (many : Nat) (w : World) (e : Ending) (w' : World) : Prop :=
  (e = .returned (.bool true) ∨ (e = .returned (.bool false) ∧ xs.length ≤ many ∧ ∀ x ∈ xs, x.t.ins.length ≤ 20)) ∧ w = w'
set_option maxHeartbeats 4000000 in
set_option maxRecDepth 100000 in
theorem beyond_is (w : World) (F : Nat → Prop) (A : Option Addr) (n c : Nat) (xs : List Ac) (many : Nat) (hmany : many ≤ 1000) (hn : n = xs.length) (hb : n ≤ maxLen) (h : Acs w F A xs) :
    Calls Try.prog 5 #[.slice A n c, .int .i64 many] w (BeySays xs many w) := by
  have HC := Lib.hid h
  have HN := Lib.hid hn
  unfold maxLen at hb
  clear h hn
  by_cases hm : many < n
  · go_enter Try.func5, Try.ntmps5
    go_wp2
    go_ret
    exact ⟨.inl rfl, rfl⟩
  go_enter Try.func5, Try.ntmps5
  go_wp2
  go_loopg [5] n (fun g s5 wr => ∃ k : Nat, k ≤ n ∧ n - k ≤ g ∧ s5 = .int .i64 k ∧ wr = w ∧ Hid (∀ x ∈ xs.take k, x.t.ins.length ≤ 20))
  case atStart => exact ⟨0, Nat.zero_le _, by omega, rfl, rfl, fun t ht => by simp at ht⟩
  case round =>
    obtain ⟨k, hk, hg, rfl, hwr, HE⟩ := hrel
    have hwr := hwr.symm
    subst hwr
    by_cases hlt : k < n
    · have hkl : k < xs.length := by rw [← HN.out]; exact hlt
      obtain ⟨x, hx⟩ : ∃ x, xs[k]? = some x := ⟨_, List.getElem?_eq_getElem hkl⟩
      have hxm := List.mem_of_getElem? hx
      have hok := HC.out.each x hxm
      obtain ⟨b, off, rfl, _, _, hc⟩ := HC.out.at hx
      have g3 := hc 3 _ rfl
      have g6 := hc 6 _ rfl
      have KB := lgs.beyondLines_is w w.heap.size x.t.A x.t.ins.length x.t.c x.t.ins 20 (by omega) rfl hok.t.few hok.t.size hok.t.lst.srd
      have HT : Hid (xs.take (k + 1) = xs.take k ++ [x]) := Lib.hid (by rw [List.take_succ_eq_append_getElem hkl]; congr 2; exact Option.some.inj ((List.getElem?_eq_getElem hkl).symm.trans hx))
      have htx := hok.text
      unfold maxLen at htx
      have KB := Lib.hid KB
      have HI : Hid (x.t.ins.length ≤ 20 → ∀ t' ∈ xs.take (k + 1), t'.t.ins.length ≤ 20) := Lib.hid fun hl t' ht' => by
        rw [HT.out, List.mem_append] at ht'
        rcases ht' with ht' | ht'
        · exact HE.out t' ht'
        · rw [List.mem_singleton.1 ht']; exact hl
      clear hc hx hkl hxm hok HT
      go_wp2_with fail
      go_at_call 23
      refine KB.out.mono ?_
      rintro e w' ⟨rfl | ⟨rfl, hl, _⟩, rfl⟩
      · go_wp2
        go_ret
        exact ⟨.inl rfl, rfl⟩
      · have HI2 := Lib.hid (HI.out hl)
        clear hl
        by_cases h1 : 300 < x.text.size
        · go_wp2
          go_ret
          exact ⟨.inl rfl, rfl⟩
        · go_wp2
          go_roundg (n - (k + 1))
          case measure => omega
          case rel => exact ⟨k + 1, by omega, by omega, by go_num, rfl, HI2⟩
    · obtain rfl : k = n := by omega
      go_wp2
      go_ret
      exact ⟨.inr ⟨rfl, by rw [← HN.out]; omega, fun t ht => HE.out t (by rw [HN.out, List.take_length]; exact ht)⟩, rfl⟩
end Go.Proofs.Ytdbeedhedjhamaa.cor
