/- The law's Same, the document's Same, the program's Same: whether two lists of texts are one. -/
import Derived.Test.YtakckmelojobkaaGreatDoorWords
namespace Go.Proofs.YtakckmelojobkaaGreatDoor
open Go.RowKit Go.Lib

set_option maxHeartbeats 2000000 in
set_option maxRecDepth 100000 in
theorem same12 (A1 A2 : Option Addr) (c d n₀ n m : Nat) (xs ys : List ByteArray) (w : World) (hn : n = xs.length) (hm : m = ys.length) (hb1 : n ≤ 9223372036854775807) (hb2 : m ≤ 9223372036854775807) (h1 : SRd w n₀ A1 xs) (h2 : SRd w n₀ A2 ys) :
    Calls Tryz.prog 21 #[.slice A1 n c, .slice A2 m d] w fun e w' => e = .returned (.bool (decide (xs = ys))) ∧ ∃ q, w' = w.drewN q := by
  have H1 := Lib.hid hn
  have H2 := Lib.hid hm
  clear hn hm
  by_cases hnm : n = m
  · subst hnm
    go_enter Tryz.func21, Tryz.ntmps21
    go_wp2
    go_loopg [5] n (fun g s13 wr => ∃ k q : Nat, k ≤ n ∧ n - k ≤ g ∧ s13 = .int .i64 k ∧ wr = w.drewN q ∧ ∀ j, j < k → xs.getD j ByteArray.empty = ys.getD j ByteArray.empty)
    case atStart => exact ⟨0, 0, Nat.zero_le _, by omega, rfl, rfl, fun j hj => absurd hj (Nat.not_lt_zero _)⟩
    case round =>
      obtain ⟨k, q, hk, hg, rfl, rfl, heq⟩ := hrel
      by_cases hlt : k < n
      · obtain ⟨p1, o1, rfl, _, hc1⟩ := h1 (by rw [← H1.out]; omega)
        obtain ⟨p2, o2, rfl, _, hc2⟩ := h2 (by rw [← H2.out]; omega)
        have g1 : w.cell? ⟨p1, o1 + k, none⟩ = some (.string (xs.getD k ByteArray.empty)) := hc1 k (by rw [← H1.out]; omega)
        have g2 : w.cell? ⟨p2, o2 + k, none⟩ = some (.string (ys.getD k ByteArray.empty)) := hc2 k (by rw [← H2.out]; omega)
        have A : Aside (∀ j, j < k → xs.getD j ByteArray.empty = ys.getD j ByteArray.empty) := heq
        clear heq hc1 hc2 h1 h2
        generalize hxk : xs.getD k ByteArray.empty = x at g1
        generalize hyk : ys.getD k ByteArray.empty = y at g2
        have B : Aside (xs.getD k ByteArray.empty = x ∧ ys.getD k ByteArray.empty = y) := ⟨hxk, hyk⟩
        clear hxk hyk
        by_cases hxy : x = y
        · subst hxy
          go_wp2_with fail
          go_region
          go_wp2
          go_roundg (n - (k + 1))
          case measure => omega
          case rel =>
            refine ⟨k + 1, q + 1, by omega, by omega, by go_num, rfl, fun j hj => ?_⟩
            by_cases e : j = k
            · subst e
              rw [B.out.1, B.out.2]
            · exact A.out j (by omega)
        · have hxy' : (x.toList == y.toList) = false := (Lib.bytes_beq_false_iff _ _).2 hxy
          go_wp2_with fail
          go_region
          go_wp2
          go_ret
          refine ⟨ret_bool ?_, q + 1, rfl⟩
          symm
          refine decide_eq_false fun e => hxy ?_
          rw [← B.out.1, ← B.out.2, e]
      · have hkn : k = n := by omega
        subst hkn
        have A : Aside (∀ j, j < k → xs.getD j ByteArray.empty = ys.getD j ByteArray.empty) := heq
        clear h1 h2 heq
        go_wp2
        go_ret
        refine ⟨ret_bool ?_, q, rfl⟩
        symm
        refine decide_eq_true (List.ext_getElem (by rw [← H1.out, ← H2.out]) fun j hj1 hj2 => ?_)
        have := A.out j (by rw [H1.out]; exact hj1)
        simpa [List.getD, List.getElem?_eq_getElem hj1, List.getElem?_eq_getElem hj2] using this
  · have hnm' : ¬ (n : Int) = (m : Int) := by omega
    have H : Hid (¬ xs = ys) := Lib.hid (fun e => hnm (by rw [H1.out, H2.out, e]))
    clear h1 h2
    go_enter Tryz.func21, Tryz.ntmps21
    go_wp2
    go_ret
    exact ⟨ret_bool (decide_eq_false H.out).symm, 0, rfl⟩

end Go.Proofs.YtakckmelojobkaaGreatDoor
