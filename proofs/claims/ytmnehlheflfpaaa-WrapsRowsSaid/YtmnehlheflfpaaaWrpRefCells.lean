/- Lines in rows: the document's Cells. -/
import Derived.Test.YtmnehlheflfpaaaWrpCells
namespace Go.Proofs.Ytmnehlheflfpaaa.wrp
open Go.RowKit Go.Lib
set_option linter.unusedVariables false
set_option linter.unusedSimpArgs false
set_option linter.unnecessarySimpa false
set_option linter.unusedSectionVars false

set_option maxHeartbeats 4000000 in
set_option maxRecDepth 100000 in
theorem refCells_is (l : List UInt8) (w : World) (hl : l.length ≤ 100000) : Calls Try.prog 10 #[.string (B l)] w (CellsSays l w) := by
  obtain ⟨i3, hi3, hs3, hb3, hz3⟩ := info_parts info3
  have hml : (1000000 : Nat) ≤ maxLen := by unfold maxLen; omega
  obtain ⟨n, hn⟩ : ∃ n, n = l.length := ⟨_, rfl⟩
  have hsz : (B l).size = n := by rw [B_size, hn]
  have HN := Lib.hid hn
  have HI : Hid (∀ (k : Nat) (W : World), k < n → (Instr.index 9 (.string (B l)) (.int .i64 (k : Int))).run Try.prog W = .ok (.int .u8 ((l.getD k 0).toNat : Int)) W) := Lib.hid fun k W h => index_at l k _ rfl (by omega) W
  obtain ⟨s, hs⟩ : ∃ s, s = B l := ⟨_, rfl⟩
  rw [← hs] at hsz HI ⊢
  have hl' : n ≤ 100000 := by omega
  clear hs hl hn
  go_enter Try.func10, Try.ntmps10
  go_wp2
  go_loopg [4, 5, 6] n (fun g s4 s5 s6 wr => ∃ k : Nat, k ≤ n ∧ n - k ≤ g ∧ s6 = .int .i64 k ∧ Below w.heap.size w wr ∧ s4 = .string (B (cellsL (l.take k))) ∧ Hid (wr.ownsRow w.heap.size 3 1 s5 k (ints (firsts l k))))
  case atStart => exact ⟨0, Nat.zero_le _, by omega, rfl, Below.refl _ _, rfl, Lib.hid (World.ownsRow_nil _ _ _ _)⟩
  case round =>
    obtain ⟨k, hk, hg, rfl, hB, rfl, H3⟩ := hrel
    obtain ⟨A3, c3, rfl, _, _⟩ := own_form' H3.out
    have hbd := at_bound l k (by have := HN.out; omega)
    have hwz := hB.size
    have HB := Lib.hid hB
    obtain ⟨m, hm⟩ : ∃ m, m = atL l k := ⟨_, rfl⟩
    have HMM := Lib.hid hm
    have hcz : (B (cellsL (l.take k))).size = m := by rw [B_size, hm]; rfl
    rw [← hm] at hbd
    clear hm hB
    have FIN : Hid (∀ v3 w3 w0, Below w.heap.size w w0 → w0.heap.size = wr.heap.size + 1 → w3.ownsRow w.heap.size 3 1 v3 (k + 1) (ints (firsts l k) ++ [.int .i64 m]) → w0.grownBy w3 (Value.slice A3 k c3).ownBlock → w3.ownsRow w.heap.size 3 1 v3 (k + 1) (ints (firsts l (k + 1))) ∧ Below w.heap.size w w3) := Lib.hid fun v3 w3 w0 hb hz ho hg3 => ⟨by rw [firsts_succ, ints_snoc, ← HMM.out]; exact ho, hb.grown hg3 (by omega) (fun j e => (H3.out.lt j e).1)⟩
    by_cases hlt : k < n
    · have hidx := fun W => HI.out k W hlt
      have HT := Lib.hid (cells_take l k _ (getD_at l k (by have := HN.out; omega)))
      rw [← HMM.out] at HT
      obtain ⟨b, hb⟩ : ∃ b, b = l.getD k 0 := ⟨_, rfl⟩
      rw [← hb] at hidx HT
      have hob := ofL_len b m
      have HS : Hid ((binOp .add 9 (.string (B (cellsL (l.take k)))) (.string (B (ofL b m)))).run Try.prog = (binOp .add 9 (.string (B (cellsL (l.take k)))) (.string (B (ofL b m)))).run Try.prog) := Lib.hid rfl
      have HAD : Hid (B (cellsL (l.take k)) ++ B (ofL b m) = B (cellsL (l.take (k + 1)))) := Lib.hid (by rw [add_B, HT.out])
      have hoz : (B (ofL b m)).size ≤ 8 := by rw [B_size]; exact hob.2
      obtain ⟨s4, hs4⟩ : ∃ s4, s4 = B (cellsL (l.take k)) := ⟨_, rfl⟩
      obtain ⟨so, hso⟩ : ∃ so, so = B (ofL b m) := ⟨_, rfl⟩
      rw [← hs4] at hcz HAD ⊢
      rw [← hso] at hoz HAD
      have HSO := Lib.hid hso
      clear hb hs4 hso hob HS
      go_wp2_with (first
        | (refine wpList_append_own _ rfl (.tmp 13) (.tmp 16) 22 rfl w.heap.size 3 i3 (.int .i64 0) 1 8 Try.underlying22 hi3 hz3 hs3 hb3 rfl (by decide) (.slice A3 k c3) k (ints (firsts l k)) rfl (H3.out.alloc _) ⟨wr.heap.size, 0, none⟩ 1 1 [.int .i64 m] rfl rfl (cell_one _ _ _) (one_int _) (by omega) (by omega) (by simp; omega) ?_; intro v6 w6 hown6 hgrow6 _; have Z6 := Lib.hid (FIN.out v6 w6 _ (HB.out.alloc hwz _) (by simp) hown6 hgrow6); clear hown6 hgrow6; have C := Lib.hid (of_is b m w6 (by omega)))
        | (go_at_call 20; refine C.out.mono ?_; rintro e w7 ⟨rfl, hb7⟩; rw [← HSO.out]; have HB7 := Lib.hid hb7; clear hb7 C)
        | fail "NONE")
      have N3 : Hid (w7.ownsRow w.heap.size 3 1 v6 (k + 1) (ints (firsts l (k + 1)))) := Lib.hid (Z6.out.1.kept (row := none) ⟨HB7.out.os, HB7.out.tape, HB7.out.output, HB7.out.size, fun i hi _ => HB7.out.block i hi⟩ (by cases v6.ownBlock <;> simp))
      have NB : Hid (Below w.heap.size w w7) := Lib.hid (Z6.out.2.trans (HB7.out.mono Z6.out.2.size))
      clear HB7 Z6
      go_roundg (n - (k + 1))
      case measure => omega
      case rel => exact ⟨k + 1, by omega, by omega, by go_num, NB.out, by rw [HAD.out], N3⟩
    · have hkn : k = n := by omega
      subst hkn
      have HTT : Hid (B (cellsL (l.take k)) = B (cellsL l)) := Lib.hid (by rw [HN.out, List.take_length])
      obtain ⟨s4, hs4⟩ : ∃ s4, s4 = B (cellsL (l.take k)) := ⟨_, rfl⟩
      rw [← hs4] at hcz HTT ⊢
      clear hs4
      have FIN2 : Hid (∀ v3 w3, w3.ownsRow w.heap.size 3 1 v3 (k + 1) (ints (firsts l k) ++ [.int .i64 m]) → (wr.alloc (.cells #[.int .i64 m] 3)).grownBy w3 (Value.slice A3 k c3).ownBlock → CellsSays l w (.returned (.tuple #[.string s4, v3])) w3) := Lib.hid fun v3 w3 ho hg3 => ⟨v3, by rw [HTT.out], by
        rw [← HN.out, ← firsts_all, ← HN.out]
        exact (FIN.out v3 w3 _ (HB.out.alloc hwz _) (by simp) ho hg3).1, (FIN.out v3 w3 _ (HB.out.alloc hwz _) (by simp) ho hg3).2⟩
      go_wp2_with (refine wpList_append_own _ rfl (.tmp 27) (.tmp 30) 22 rfl w.heap.size 3 i3 (.int .i64 0) 1 8 Try.underlying22 hi3 hz3 hs3 hb3 rfl (by decide) (.slice A3 k c3) k (ints (firsts l k)) rfl (H3.out.alloc _) ⟨wr.heap.size, 0, none⟩ 1 1 [.int .i64 m] rfl rfl (cell_one _ _ _) (one_int _) (by omega) (by omega) (by simp; omega) ?_; intro v6 w6 hown6 hgrow6 _; have Z6 := Lib.hid (FIN2.out v6 w6 hown6 hgrow6); clear hown6 hgrow6)
      go_ret2
      exact Z6.out
end Go.Proofs.Ytmnehlheflfpaaa.wrp
