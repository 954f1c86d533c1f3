/- Splices: nums.Put and PutList, asked for the one table alone that they read. -/
import Derived.Test.YtakckmelojobkaaDoorSplPure
import Derived.Test.YtakckmelojobkaaDoorNumPutList
namespace Go.Proofs.YtakckmelojobkaaDoor.sps
open Go.RowKit Go.Shelf Go.Lib pce num
set_option linter.unusedVariables false
set_option linter.unusedSimpArgs false
set_option linter.unnecessarySimpa false
set_option linter.unusedSectionVars false

/-- What the table of tens holds, below block n₀. -/
def VarT (n₀ : Nat) (w : World) : Prop := 3 < n₀ ∧ Lib.TabIs Tryd.prog w "internal/strconv.uint64pow10" .u64 Lib.pow10Tab
theorem VarT.below {n₀ : Nat} {w w' : World} (h : VarT n₀ w) (hB : Below n₀ w w') : VarT n₀ w' := by
  obtain ⟨h6, ht⟩ := h
  refine ⟨h6, ?_⟩
  unfold Lib.TabIs World.var? at ht ⊢
  rw [num.gTab] at ht ⊢
  simp only [Option.bind_some] at ht ⊢
  rw [hB.block 3 h6]
  exact ht
theorem VarT.more {n₀ n₁ : Nat} {w : World} (h : VarT n₀ w) (hn : n₀ ≤ n₁) : VarT n₁ w := ⟨Nat.lt_of_lt_of_le h.1 hn, h.2⟩
theorem VarT.next {w w' : World} (h : VarT w.heap.size w) (hB : Below w.heap.size w w') : VarT w'.heap.size w' := (h.below hB).more hB.size
theorem VarT.of {n₀ : Nat} {w : World} (h : num.Vars n₀ w) : VarT n₀ w := ⟨h.1.2.2, h.2.1⟩

set_option maxHeartbeats 1000000 in
set_option maxRecDepth 100000 in
theorem put_is (n : Nat) (w : World) (hn : n ≤ MX) (hV : VarT w.heap.size w) :
    Calls Tryd.prog 42 #[.int .i64 n] w fun e w' => e = .returned (.string (B (putN n))) ∧ Below w.heap.size w w' := by
  have hn' : n ≤ 9223372036854775807 := hn
  have hl : (Lib.itoa (n : Int)).length ≤ 19 := by rw [Lib.itoa_nonneg]; exact dec_len19 hn
  have C := Lib.hid (Tryd.strconv_Itoa n (by omega) (by omega) w hV.2)
  have HI := Lib.hid (itoa_put n)
  clear hn hV
  generalize Lib.itoa (n : Int) = x at hl C HI
  go_enter Tryd.func42, Tryd.ntmps42
  go_wp2_with fail
  go_at_call 54
  refine C.out.mono ?_
  rintro e w' ⟨rfl, k, os, rfl⟩
  have hB := Lib.below_grow w.heap.size w (Nat.le_refl _) k os
  go_wp2
  go_ret
  exact ⟨ret_str HI.out, hB⟩

set_option maxHeartbeats 2000000 in
set_option maxRecDepth 100000 in
theorem putList_is (A : Option Addr) (c n : Nat) (zs : List ByteArray) (w : World) (hn : n = zs.length) (hb1 : n ≤ 100000) (ht : tot zs ≤ 1000000) (h1 : SRd w w.heap.size A zs) (hV : VarT w.heap.size w) :
    Calls Tryd.prog 43 #[.slice A n c] w fun e w' => e = .returned (.string (B (putL (num.bytesOf zs)))) ∧ Below w.heap.size w w' := by
  have H1 := Lib.hid hn
  have HKL := Lib.hid (fun k => putK_len n zs k (by unfold MX; omega) ht)
  have HT := Lib.hid ht
  clear hn ht
  have hB0 : Below w.heap.size w (w.alloc (.cells #[.pointer none, .slice none 0 0] 79)) := (Below.refl _ w).alloc (Nat.le_refl _) _
  have hV0 : VarT (w.heap.size + 1) (w.alloc (.cells #[.pointer none, .slice none 0 0] 79)) := (hV.below hB0).more (by omega)
  have hb0 := Lib.fresh_isBuilder 79 5 w
  have C := Lib.hid (put_is n (w.alloc (.cells #[.pointer none, .slice none 0 0] 79)) (by unfold MX; omega) (by rw [World.size_alloc]; exact hV0))
  have hp20 := putN_len20 (n := n) (by unfold MX; omega)
  go_enter Tryd.func43, Tryd.ntmps43
  go_wp2_with fail
  go_at_call 42
  refine C.out.mono ?_
  rintro e w1 ⟨rfl, hB1⟩
  rw [World.size_alloc] at hB1
  have hb1' := builder_below hb0 (by rw [World.size_alloc]; exact hB1)
  have hBw1 := hB0.trans (hB1.mono (by omega))
  have hz1 := hBw1.size
  clear C hV0 hB1 hB0 hb0
  go_wp2_with fail
  go_at_call 55
  refine (writeString26 w.heap.size w.heap.size [] (B (putN n)) _ hb1' (by rw [B_size]; simp; omega) hz1).mono ?_
  rintro e w2 ⟨rfl, hb2, hB2⟩
  have hBw2 := hBw1.trans hB2
  have hb2' : Lib.IsBuilder 79 5 w.heap.size w.heap.size (Lib.byteCells (putK n zs 0)) w2 := .inr (by
    have := byteCells_str [] (B (putN n))
    rw [list_B, List.nil_append] at this
    rw [putK_zero, ← this]
    exact hb2)
  clear hb2 hB2 hBw1 hb1'
  go_wp2_with fail
  go_loopg [5, 12] n (fun g _ s12 wr => ∃ k : Nat, k ≤ n ∧ n - k ≤ g ∧ s12 = .int .i64 k ∧ Lib.IsBuilder 79 5 w.heap.size w.heap.size (Lib.byteCells (putK n zs k)) wr ∧ Below w.heap.size w wr)
  case atStart => exact ⟨0, Nat.zero_le _, by omega, rfl, hb2', hBw2⟩
  case round =>
    obtain ⟨k, hk, hg, rfl, hbk, hbw⟩ := hrel
    have hsz := hbw.size
    clear hb2' hBw2
    by_cases hlt : k < n
    · obtain ⟨p1, o1, rfl, _, hc1⟩ := (h1.below hbw) (by rw [← H1.out]; omega)
      have g1 : wr.cell? ⟨p1, o1 + k, none⟩ = some (.string (zs.getD k ByteArray.empty)) := hc1 k (by rw [← H1.out]; omega)
      have hkz : k < zs.length := by rw [← H1.out]; exact hlt
      have T := Lib.hid (putK_succ n zs k hkz)
      have hsz2 : (zs.getD k ByteArray.empty).size ≤ 1000000 := by have := size_le_tot hkz; have := HT.out; omega
      have hl : (Lib.byteCells (putK n zs k)).length ≤ 4000000 := by
        rw [Lib.byteCells_length]
        have := HKL.out k; have := tot_take_le zs k; have := HT.out; have := List.length_take_le k zs; omega
      clear hc1 hkz
      generalize hxk : zs.getD k ByteArray.empty = x at g1 T hsz2
      clear hxk
      have hVr := Lib.hid ((hV.below hbw).more hsz)
      have hq20 := putN_len20 (n := x.size) (by unfold MX; omega)
      go_wp2_with fail
      go_at_call 42
      refine (put_is x.size wr (by unfold MX; omega) hVr.out).mono ?_
      rintro e w3 ⟨rfl, hB3⟩
      have hbw3 := hbw.trans (hB3.mono hsz)
      have hsz3 := hbw3.size
      have hb3 := builder_below hbk hB3
      clear hB3
      go_wp2_with fail
      go_at_call 55
      refine (writeString26 w.heap.size w.heap.size _ (B (putN x.size)) _ hb3 (by rw [B_size]; omega) hsz3).mono ?_
      rintro e w4 ⟨rfl, hb4, hB4⟩
      have hbw4 := hbw3.trans hB4
      have hsz4 := hbw4.size
      have hl4 : (Lib.byteCells (putK n zs k) ++ Lib.strCells (B (putN x.size))).length ≤ 4000020 := by rw [List.length_append, Lib.strCells_length, B_size]; omega
      clear hB4 hb3 hbw3
      go_wp2_with fail
      go_at_call 55
      refine (writeString26 w.heap.size w.heap.size _ x _ (.inr hb4) (by omega) hsz4).mono ?_
      rintro e w5 ⟨rfl, hb5, hB5⟩
      have hbw5 := hbw4.trans hB5
      have hb6 : Hid (Lib.IsBuilder 79 5 w.heap.size w.heap.size (Lib.byteCells (putK n zs (k + 1))) w5) := Lib.hid (.inr (by
        rw [byteCells_str, byteCells_str, list_B, List.append_assoc] at hb5
        rw [T.out]
        unfold putT
        rw [size_list]
        exact hb5))
      clear hb4 hb5 hB5 hbw4 hbk
      go_wp2
      go_roundg (n - (k + 1))
      case measure => omega
      case rel => exact ⟨k + 1, by omega, by omega, by go_num, hb6.out, hbw5⟩
    · have hkn : k = n := by omega
      subst hkn
      have hbn : Hid (Lib.IsBuilder 79 5 w.heap.size w.heap.size (Lib.byteCells (putL (num.bytesOf zs))) wr) := Lib.hid (by rw [← putK_all, ← H1.out]; exact hbk)
      clear hbk h1
      go_wp2_with fail
      go_at_call 56
      refine (Tryd.Builder_String_any w.heap.size w.heap.size _ _ hbn.out hsz).mono ?_
      rintro e w2 ⟨rfl, hB2⟩
      go_wp2
      go_ret
      exact ⟨rfl, hbw.trans hB2⟩
end Go.Proofs.YtakckmelojobkaaDoor.sps
