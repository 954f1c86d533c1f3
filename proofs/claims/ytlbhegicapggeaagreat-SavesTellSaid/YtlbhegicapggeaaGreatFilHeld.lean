/- Files, the laws: whether two lists of numbers are one; what each file has. -/
import Derived.Test.YtlbhegicapggeaaGreatFilWith
import Derived.Test.YtlbhegicapggeaaGreatSame
namespace Go.Proofs.YtlbhegicapggeaaGreat.fil
open Go.RowKit Go.Lib Go.Maps Go.WideMaps
set_option linter.unusedVariables false
set_option linter.unusedSimpArgs false
set_option linter.unnecessarySimpa false
set_option linter.unusedSectionVars false

theorem LRd.ints {w : World} {lo hi : Nat} {A : Option Addr} {xs : List Int} (h : LRd w lo hi A (iv xs)) (h0 : 0 < xs.length) : ∃ b off, A = some ⟨b, off, none⟩ ∧ ∀ j, j < xs.length → w.cell? ⟨b, off + j, none⟩ = some (.int .i64 (xs.getD j 0)) := by
  obtain ⟨b, off, e, _, _, h3⟩ := h (by rw [iv_length]; exact h0)
  exact ⟨b, off, e, fun j hj => h3 j _ (by simp [iv, List.getD, List.getElem?_eq_getElem hj])⟩

set_option maxHeartbeats 2000000 in
set_option maxRecDepth 100000 in
theorem numbers (A1 A2 : Option Addr) (c d n m lo hi lo2 hi2 : Nat) (xs ys : List Int) (w : World) (hn : n = xs.length) (hm : m = ys.length) (hb1 : n ≤ 9223372036854775807) (hb2 : m ≤ 9223372036854775807) (h1 : LRd w lo hi A1 (iv xs)) (h2 : LRd w lo2 hi2 A2 (iv ys)) :
    Calls Tryz.prog 48 #[.slice A1 n c, .slice A2 m d] w fun e w' => e = .returned (.bool (decide (xs = ys))) ∧ ∃ q, w' = w.drewN q := by
  have H1 := Lib.hid hn
  have H2 := Lib.hid hm
  clear hn hm
  by_cases hnm : n = m
  · subst hnm
    go_enter Tryz.func48, Tryz.ntmps48
    go_wp2
    go_loopg [5] n (fun g s13 wr => ∃ k q : Nat, k ≤ n ∧ n - k ≤ g ∧ s13 = .int .i64 k ∧ wr = w.drewN q ∧ ∀ j, j < k → xs.getD j 0 = ys.getD j 0)
    case atStart => exact ⟨0, 0, Nat.zero_le _, by omega, rfl, rfl, fun j hj => absurd hj (Nat.not_lt_zero _)⟩
    case round =>
      obtain ⟨k, q, hk, hg, rfl, rfl, heq⟩ := hrel
      by_cases hlt : k < n
      · obtain ⟨p1, o1, rfl, hc1⟩ := h1.ints (by rw [← H1.out]; omega)
        obtain ⟨p2, o2, rfl, hc2⟩ := h2.ints (by rw [← H2.out]; omega)
        have g1 : w.cell? ⟨p1, o1 + k, none⟩ = some (.int .i64 (xs.getD k 0)) := hc1 k (by rw [← H1.out]; omega)
        have g2 : w.cell? ⟨p2, o2 + k, none⟩ = some (.int .i64 (ys.getD k 0)) := hc2 k (by rw [← H2.out]; omega)
        have A : Aside (∀ j, j < k → xs.getD j 0 = ys.getD j 0) := heq
        clear heq hc1 hc2 h1 h2
        generalize hxk : xs.getD k 0 = x at g1
        generalize hyk : ys.getD k 0 = y at g2
        have B : Aside (xs.getD k 0 = x ∧ ys.getD k 0 = y) := ⟨hxk, hyk⟩
        clear hxk hyk
        by_cases hxy : x = y
        · subst hxy
          go_wp2_with fail
          go_region
          go_wp2
          go_roundg (n - (k + 1))
          case measure => omega
          case rel =>
            refine ⟨k + 1, q + 1, by omega, by omega, by go_num, rfl, fun j hj => ?_⟩
            by_cases e : j = k
            · subst e
              rw [B.out.1, B.out.2]
            · exact A.out j (by omega)
        · have hxy' : (x != y) = true := by simpa using hxy
          go_wp2_with fail
          go_region
          go_wp2
          go_ret
          refine ⟨ret_bool ?_, q + 1, rfl⟩
          symm
          refine decide_eq_false fun e => hxy ?_
          rw [← B.out.1, ← B.out.2, e]
      · have hkn : k = n := by omega
        subst hkn
        have A : Aside (∀ j, j < k → xs.getD j 0 = ys.getD j 0) := heq
        clear h1 h2 heq
        go_wp2
        go_ret
        refine ⟨ret_bool ?_, q, rfl⟩
        symm
        refine decide_eq_true (List.ext_getElem (by rw [← H1.out, ← H2.out]) fun j hj1 hj2 => ?_)
        have := A.out j (by rw [H1.out]; exact hj1)
        simpa [List.getD, List.getElem?_eq_getElem hj1, List.getElem?_eq_getElem hj2] using this
  · have hnm' : ¬ (n : Int) = (m : Int) := by omega
    have H : Hid (¬ xs = ys) := Lib.hid (fun e => hnm (by rw [H1.out, H2.out, e]))
    clear h1 h2
    go_enter Tryz.func48, Tryz.ntmps48
    go_wp2
    go_ret
    exact ⟨ret_bool (decide_eq_false H.out).symm, 0, rfl⟩

/-- A list that a call told, in memory of its own. -/
def Told (w : World) (xs : List Value) (v : Value) (w' : World) : Prop :=
  ∃ A c, v = .slice A xs.length c ∧ xs.length ≤ c ∧ c ≤ maxLen ∧ (A = none → c = 0) ∧ LRd w' w.heap.size w'.heap.size A xs
theorem Told.of_own {w w' : World} {v : Value} {xs : List Value} {n : Nat} (h : w'.ownsRow w.heap.size 9 1 v n xs) : Told w xs v w' := by
  have hn : xs.length = n := by simpa using h.1
  subst hn
  obtain ⟨A, c, rfl, h1, h2⟩ := own_form2 h
  refine ⟨A, c, rfl, h1, h2, fun hA => ?_, LRd.of_own h⟩
  subst hA
  rcases h.2 with ⟨hv, _⟩ | ⟨g, cap, cur, hv, _⟩
  · injection hv
  · cases hv

def bytesOf (l : List Fl) : List (List UInt8) := l.map (·.bytes)
theorem bytesOf_length (l : List Fl) : (bytesOf l).length = l.length := by simp [bytesOf]
theorem info9 : (Tryz.prog.info? 9).map (fun i => (i.zero, i.size, i.bytes)) = some (some (.string ⟨#[]⟩), 1, 16) := by kernel_rfl
theorem one_str (s : ByteArray) : ∀ u ∈ [Value.string s], u.oneCell' = true := by
  intro u hu; rw [List.mem_singleton.1 hu]; rfl

section
variable {F : Nat → Prop} {fb mb : Nat} {D : DataW Unit} {G : List Gf} {dp : Option Addr} {s : St}
end
end Go.Proofs.YtlbhegicapggeaaGreat.fil
