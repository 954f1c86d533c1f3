/- Lines in rows: Cells. -/
import Derived.Test.YtmnehlheflfpaaaWrpInts
namespace Go.Proofs.Ytmnehlheflfpaaa.wrp
open Go.RowKit Go.Lib
set_option linter.unusedVariables false
set_option linter.unusedSimpArgs false
set_option linter.unnecessarySimpa false
set_option linter.unusedSectionVars false

def CellsSays (l : List UInt8) (w : World) (e : Ending) (w' : World) : Prop :=
  ∃ v, e = .returned (.tuple #[.string (B (cellsL l)), v]) ∧ w'.ownsRow w.heap.size 3 1 v (l.length + 1) (ints (placesL l)) ∧ Below w.heap.size w w'
set_option maxHeartbeats 4000000 in
set_option maxRecDepth 100000 in
theorem cells_is (l : List UInt8) (w : World) (hl : l.length ≤ 100000) : Calls Try.prog 9 #[.string (B l)] w (CellsSays l w) := by
  obtain ⟨i5, hi5, hs5, hb5, hz5⟩ := info_parts info5
  obtain ⟨i3, hi3, hs3, hb3, hz3⟩ := info_parts info3
  have hml : (1000000 : Nat) ≤ maxLen := by unfold maxLen; omega
  obtain ⟨n, hn⟩ : ∃ n, n = l.length := ⟨_, rfl⟩
  have hsz : (B l).size = n := by rw [B_size, hn]
  have HN := Lib.hid hn
  have HI : Hid (∀ (k : Nat) (W : World), k < n → (Instr.index 9 (.string (B l)) (.int .i64 (k : Int))).run Try.prog W = .ok (.int .u8 ((l.getD k 0).toNat : Int)) W) := Lib.hid fun k W h => index_at l k _ rfl (by omega) W
  obtain ⟨s, hs⟩ : ∃ s, s = B l := ⟨_, rfl⟩
  rw [← hs] at hsz HI ⊢
  have hl' : n ≤ 100000 := by omega
  clear hs hl hn
  go_enter Try.func9, Try.ntmps9
  go_wp2_with (first
    | (at_make; refine wpList_make_own _ rfl (.const (.int .i64 0)) (.tmp 7) 37 rfl w.heap.size 5 i5 (.int .u8 0) 1 Try.underlying37 hi5 hz5 hs5 .i64 .i64 _ n rfl rfl rfl (by rw [hb5]; omega) (by omega) (Nat.le_refl _) ?_; intro w1 hown1 hgrow1; have hz1 := hgrow1.size; have HO1 := Lib.hid hown1; have HG1 := Lib.hid hgrow1; clear hown1 hgrow1)
    | (at_make; refine wpList_make_own _ rfl (.const (.int .i64 0)) (.tmp 11) 22 rfl w.heap.size 3 i3 (.int .i64 0) 1 Try.underlying22 hi3 hz3 hs3 .i64 .i64 _ (n + 1) rfl rfl (by omega) (by rw [hb3]; omega) (by omega) (by omega) ?_; intro w2 hown2 hgrow2; have HO2 := Lib.hid hown2; have HG2 := Lib.hid hgrow2; clear hown2 hgrow2)
    | fail "NONE")
  have ST3 : Hid (w2.ownsRow w.heap.size 3 1 (.slice (some ⟨w1.heap.size, 0, none⟩) 0 (n + 1)) 0 (ints (firsts l 0))) := Lib.hid ⟨HO2.out.1, by rcases HO2.out.2 with h | ⟨g, c, cu, h1, h2, h3⟩; exact .inl h; exact .inr ⟨g, c, cu, h1, h2, h3⟩⟩
  have ST4 : Hid (w2.ownsRow w.heap.size 5 1 (.slice (some ⟨w.heap.size, 0, none⟩) 0 n) 0 ((cellsL (l.take 0)).map u8)) := Lib.hid (HO1.out.kept HG2.out (.inr (by simp [Value.ownBlock])))
  have hB2 : Below w.heap.size w w2 := ((Below.refl _ _).grown HG1.out (Nat.le_refl _) (fun k e => by cases e)).grown HG2.out hz1 (fun k e => by cases e)
  clear HO1 HO2 HG1 HG2
  go_loopg [3, 4, 5, 15] n (fun g s3 s4 s5 s15 wr => ∃ k : Nat, k ≤ n ∧ n - k ≤ g ∧ s15 = .int .i64 k ∧ Below w.heap.size w wr ∧ Hid (wr.ownsRow w.heap.size 3 1 s3 k (ints (firsts l k))) ∧ Hid (wr.ownsRow w.heap.size 5 1 s4 (atL l k) ((cellsL (l.take k)).map u8)))
  case atStart => exact ⟨0, Nat.zero_le _, by omega, rfl, hB2, ST3, ST4⟩
  case round =>
    obtain ⟨k, hk, hg, rfl, hB, H3, H4⟩ := hrel
    clear hB2 ST3 ST4
    obtain ⟨A3, c3, rfl, _, _⟩ := own_form' H3.out
    obtain ⟨A4, c4, rfl, _, _⟩ := own_form' H4.out
    have hbd := at_bound l k (by have := HN.out; omega)
    have hwz := hB.size
    have HB := Lib.hid hB
    have HM : Hid (atL l k = (cellsL (l.take k)).length) := Lib.hid rfl
    obtain ⟨m, hm⟩ : ∃ m, m = atL l k := ⟨_, rfl⟩
    have HMM := Lib.hid hm
    rw [← hm] at hbd H4 HM ⊢
    clear hm hB
    by_cases hlt : k < n
    · have hidx := fun W => HI.out k W hlt
      have HT := Lib.hid (cells_take l k _ (getD_at l k (by have := HN.out; omega)))
      have HA := Lib.hid (at_succ l k _ (getD_at l k (by have := HN.out; omega)))
      rw [← HMM.out] at HT HA
      obtain ⟨b, hb⟩ : ∃ b, b = l.getD k 0 := ⟨_, rfl⟩
      rw [← hb] at hidx HT HA
      clear hb
      have STEP6 : Hid (∀ v6 w6, w6.ownsRow w.heap.size 3 1 v6 (k + 1) (ints (firsts l k) ++ [.int .i64 m]) → (wr.alloc (.cells #[.int .i64 m] 3)).grownBy w6 (Value.slice A3 k c3).ownBlock → w6.ownsRow w.heap.size 3 1 v6 (k + 1) (ints (firsts l k) ++ [.int .i64 m]) ∧ (w6.ownsRow w.heap.size 5 1 (.slice A4 m c4) m ((cellsL (l.take k)).map u8) ∧ Below w.heap.size w w6) ∧ Calls Try.prog 19 #[.slice A4 m c4, .int .u8 (b.toNat : Int), .int .i64 m] w6 (LaySays w.heap.size (.slice A4 m c4) (cellsL (l.take k)) b m w6)) := Lib.hid fun v6 w6 h1 h2 => by
        have k4 := (H4.out.alloc (.cells #[.int .i64 m] 3)).kept h2 (rows_ne H4.out H3.out (by decide))
        have kB := (HB.out.alloc hwz _).grown h2 (by simp; omega) (fun j e => (H3.out.lt j e).1)
        exact ⟨h1, ⟨k4, kB⟩, lay_is w.heap.size (.slice A4 m c4) (cellsL (l.take k)) b m w6 (by omega) (by rw [← HM.out]; exact k4) kB.size (by rw [← HM.out]; omega)⟩
      go_wp2_with (first
        | (refine wpList_append_own _ rfl (.tmp 18) (.tmp 21) 22 rfl w.heap.size 3 i3 (.int .i64 0) 1 8 Try.underlying22 hi3 hz3 hs3 hb3 rfl (by decide) (.slice A3 k c3) k (ints (firsts l k)) rfl (H3.out.alloc _) ⟨wr.heap.size, 0, none⟩ 1 1 [.int .i64 m] rfl rfl (cell_one _ _ _) (one_int _) (by omega) (by omega) (by simp; omega) ?_; intro v6 w6 hown6 hgrow6 _; have Z6 := Lib.hid (STEP6.out v6 w6 hown6 hgrow6); clear hown6 hgrow6; have C := Lib.hid Z6.out.2.2)
        | (go_at_call 19; (refine C.out.mono ?_; rintro e w7 ⟨v7, rfl, hb7⟩; have HB7 := Lib.hid hb7; clear hb7 C))
        | fail "NONE")
      have hb7 := HB7.out
      have HO6 := Lib.hid Z6.out.1
      have HO4 := Lib.hid Z6.out.2.1.1
      have HB6 := Lib.hid Z6.out.2.1.2
      have N3 : Hid (w7.ownsRow w.heap.size 3 1 v6 (k + 1) (ints (firsts l (k + 1)))) := Lib.hid (by
        rw [firsts_succ, ints_snoc, ← HMM.out]
        exact HO6.out.kept hb7.grown (rows_ne HO6.out HO4.out (by decide)))
      have N4 : Hid (w7.ownsRow w.heap.size 5 1 v7 (atL l (k + 1)) ((cellsL (l.take (k + 1))).map u8)) := Lib.hid (by
        have := hb7.own
        rw [List.length_append, ← HM.out] at this
        rw [HT.out, HA.out]
        exact this)
      have NB : Hid (Below w.heap.size w w7) := Lib.hid (HB6.out.grown hb7.grown HB6.out.size (fun j e => (HO4.out.lt j e).1))
      clear hb7 HB7
      go_roundg (n - (k + 1))
      case measure => omega
      case rel => exact ⟨k + 1, by omega, by omega, by go_num, NB.out, N3, N4⟩
    · have hkn : k = n := by omega
      subst hkn
      have HTT : Hid (cellsL (l.take k) = cellsL l) := Lib.hid (by rw [HN.out, List.take_length])
      have cv1 : (convert 37 9 (.slice A4 m c4)).run Try.prog wr.drew = .ok (.string (B (cellsL (l.take k)))) wr.drew := conv_own HM.out (own_drew H4.out)
      have cv2 : (convert 37 9 (.slice A4 m c4)).run Try.prog (wr.alloc (.cells #[.int .i64 m] 3)).drew = .ok (.string (B (cellsL (l.take k)))) (wr.alloc (.cells #[.int .i64 m] 3)).drew := conv_own HM.out (own_drew (H4.out.alloc _))
      have CV3 : Hid (∀ w3, (wr.alloc (.cells #[.int .i64 m] 3)).drew.grownBy w3 (Value.slice A3 k c3).ownBlock → (convert 37 9 (.slice A4 m c4)).run Try.prog w3 = .ok (.string (B (cellsL (l.take k)))) w3) := Lib.hid fun w3 hg3 => conv_own HM.out ((own_drew (H4.out.alloc _)).kept hg3 (rows_ne H4.out H3.out (by decide)))
      have FIN : Hid (∀ v3 w3, w3.ownsRow w.heap.size 3 1 v3 (k + 1) (ints (firsts l k) ++ [.int .i64 m]) → (wr.alloc (.cells #[.int .i64 m] 3)).drew.grownBy w3 (Value.slice A3 k c3).ownBlock → CellsSays l w (.returned (.tuple #[.string (B (cellsL (l.take k))), v3])) w3) := Lib.hid fun v3 w3 ho hg3 => ⟨v3, by rw [HTT.out], by
        rw [← HN.out]
        have : ints (placesL l) = ints (firsts l k) ++ [.int .i64 m] := by rw [← firsts_all, ← HN.out, firsts_succ, ints_snoc, ← HMM.out]
        rw [this]; exact ho, (below_drew (HB.out.alloc hwz _)).grown hg3 (by simp [World.drew]; omega) (fun j e => (H3.out.lt j e).1)⟩
      go_wp2
      go_region_law (refine step_append_lies _ rfl _ _ 22 rfl w.heap.size 3 i3 (.int .i64 0) 1 8 Try.underlying22 hi3 hz3 hs3 hb3 rfl (by decide) _ k _ rfl (own_drew (H3.out.alloc _)) ⟨wr.heap.size, 0, none⟩ 1 1 [.int .i64 m] rfl rfl (cell_one _ _ _) (one_int _) (by decide) (by omega) (by omega) (by simp; omega) _ rfl ?_; intro g3 c3' w3 hown3 hgrow3 _ _; have cv3 := CV3.out w3 hgrow3; have FIN3 := Lib.hid (FIN.out _ w3 hown3 hgrow3))
      all_goals
        go_wp2
        go_ret2
        exact FIN3.out
end Go.Proofs.Ytmnehlheflfpaaa.wrp
