/- Grids: a new one, of the program: rows cut out of one list. -/
import Derived.Test.YteekihhngjbjgaaGrdRepeat
import Derived.Test.YteekihhngjbjgaaGrdFns
import Derived.Test.YteekihhngjbjgaaGrdCells
namespace Go.Proofs.Yteekihhngjbjgaa.grd
open Go.RowKit Go.Lib
set_option linter.unusedVariables false
set_option linter.unusedSimpArgs false
set_option linter.unnecessarySimpa false
set_option linter.unusedSectionVars false

theorem made_rows (n : Nat) : (madeCells (Value.slice none 0 0).cells (n * 1)).toList = List.replicate n (Value.slice none 0 0) := by
  rw [Nat.mul_one, show (Value.slice none 0 0).cells = #[.slice none 0 0] from rfl, toList_madeCells_one]
theorem made_bytes (k : Nat) : (madeCells (Value.int .u8 0).cells (k * 1)).toList = List.replicate k (Value.int .u8 0) := by
  rw [Nat.mul_one, show (Value.int .u8 0).cells = #[.int .u8 0] from rfl, toList_madeCells_one]
/-- The first rows are cut, the others are none. -/
structure Cut (hs : Array Value) (g m k n : Nat) : Prop where
  done : ∀ i, i < k → hs[i]? = some (.slice (some ⟨g, i * m, none⟩) m m)
  rest : ∀ i, k ≤ i → i < n → hs[i]? = some (.slice none 0 0)
theorem Cut.step {hs : Array Value} {g m k n : Nat} (h : Cut hs g m k n) (hk : k < n) : Cut (hs.setIfInBounds k (.slice (some ⟨g, k * m, none⟩) m m)) g m (k + 1) n := by
  have hlt : k < hs.size := (Array.getElem?_eq_some_iff.1 (h.rest k (Nat.le_refl _) hk)).1
  refine ⟨fun i hi => ?_, fun i h1 h2 => ?_⟩
  · rw [Array.getElem?_setIfInBounds]
    by_cases e : k = i
    · subst e; rw [if_pos rfl, if_pos hlt]
    · rw [if_neg e]; exact h.done i (by omega)
  · rw [Array.getElem?_setIfInBounds, if_neg (by omega)]
    exact h.rest i (by omega) h2
set_option maxHeartbeats 4000000 in
set_option maxRecDepth 100000 in
theorem blanks_is (n m : Nat) (hn1 : 2 ≤ n) (hn2 : n ≤ 60) (hm1 : 8 ≤ m) (hm2 : m ≤ 132) (w : World) :
    Calls Try.prog 37 #[.int .i64 n, .int .i64 m] w fun e w' => ∃ h, e = .returned (.slice (some ⟨h, 0, none⟩) n n) ∧ Gr w' w.heap.size w'.heap.size (some ⟨h, 0, none⟩) n n (blankC n m) ∧ Below w.heap.size w w' := by
  obtain ⟨i0, hi0, hz0, hz1, hz2⟩ := info_parts info32
  obtain ⟨p, hp⟩ : ∃ p, p = n * m := ⟨_, rfl⟩
  have hp1 : 1 ≤ p := by rw [hp]; exact Nat.mul_pos (by omega) (by omega)
  have hp2 : p ≤ 8000 := by rw [hp]; exact Nat.le_trans (Nat.mul_le_mul hn2 hm2) (by decide)
  have hpm : (n : Int) * (m : Int) = (p : Int) := by rw [hp]; exact (Int.natCast_mul n m).symm
  have HP := Lib.hid hp
  clear hp
  have hml : (1000000 : Nat) ≤ maxLen := by unfold maxLen; omega
  go_enter Try.func37, Try.ntmps37
  go_wp2_with fail
  go_at_call 45
  refine (repeat_is _ w.heap.size 0 1 p hp1 hp2 (by simp) ((At.new w 5 #[.int .u8 32]).cell 0)).mono ?_
  rintro e W1 ⟨rfl, hcur, hB0⟩
  have HB1 : Below w.heap.size w W1 := ((Below.refl _ _).alloc (Nat.le_refl _) _).trans (hB0.mono (by simp))
  have hg1 : (w.alloc (.cells #[.int .u8 32] 5)).heap.size = w.heap.size + 1 := by simp
  have HC : Hid (∃ cur : List Value, At W1 (w.heap.size + 1) 5 cur.toArray ∧ Bl cur p) := Lib.hid (by rw [← hg1]; exact hcur)
  have hw1 : w.heap.size + 1 < W1.heap.size := by obtain ⟨cur, h, _⟩ := HC.out; exact h.lt
  clear hcur hB0 hg1
  go_wp2_with (at_make; refine wpList_make_full _ rfl (.tmp 15) (.tmp 15) 32 rfl W1.heap.size 39 i0 (.slice none 0 0) 1 Try.underlying32 hi0 hz0 hz1 .i64 .i64 _ _ n rfl rfl rfl rfl (by rw [hz2]; omega) (by omega) (Nat.le_refl _) ?_; intro W2 hown2 hgrow2; rw [made_rows] at hown2)
  have HB2 : Below w.heap.size w W2 := HB1.trans (((Below.refl W1.heap.size W1).grown hgrow2 (Nat.le_refl _) (fun k e => by cases e)).mono HB1.size)
  have HB12 := Lib.hid ((Below.refl W1.heap.size W1).grown hgrow2 (Nat.le_refl _) (fun k e => by cases e))
  have hs2 := HB12.out.size
  have HCUR : Hid (∃ cur : List Value, At W2 (w.heap.size + 1) 5 cur.toArray ∧ Bl cur p) := Lib.hid (by
    obtain ⟨cur, h1, h2⟩ := HC.out
    exact ⟨cur, h1.keep HB12.out hw1, h2⟩)
  have HH : Hid (∃ hs, At W2 W1.heap.size 39 hs ∧ Cut hs (w.heap.size + 1) m 0 n) := Lib.hid (by
    obtain ⟨g, cs, e, _, h1, h2⟩ := own_block hown2 (by omega)
    injection e with e; injection e with e _; subst e
    exact ⟨cs, h1, ⟨fun i hi => absurd hi (Nat.not_lt_zero _), fun i _ hi => h2 i _ (by rw [List.getElem?_replicate, if_pos hi])⟩⟩)
  clear hown2 hgrow2 HC HB1
  go_wp2
  go_loopg [19, 7, 8, 9] n (fun g s19 s7 s8 s9 wr => ∃ k : Nat, k ≤ n ∧ n - k ≤ g ∧ s19 = .int .i64 k ∧ Below w.heap.size w wr ∧ W1.heap.size < wr.heap.size ∧ Hid (∃ cur : List Value, At wr (w.heap.size + 1) 5 cur.toArray ∧ Bl cur p) ∧ Hid (∃ hs, At wr W1.heap.size 39 hs ∧ Cut hs (w.heap.size + 1) m k n))
  case atStart => exact ⟨0, Nat.zero_le _, by omega, rfl, HB2, by obtain ⟨_, h, _⟩ := HH.out; exact h.lt, HCUR, HH⟩
  case round =>
    obtain ⟨k, hk, hg, rfl, hB, hsz, HU, HT⟩ := hrel
    clear HB2 HB12 HCUR HH hs2
    by_cases hlt : k < n
    · obtain ⟨q, hq⟩ : ∃ q, q = k * m := ⟨_, rfl⟩
      have hq1 : (k : Int) * (m : Int) = (q : Int) := by rw [hq]; exact (Int.natCast_mul k m).symm
      have hq2 : ((k : Int) + 1) * (m : Int) = ((q + m : Nat) : Int) := by rw [hq]; push_cast; rw [Int.add_mul]; omega
      have hqp : q + m ≤ p := by
        rw [hq, HP.out, show k * m + m = (k + 1) * m by rw [Nat.add_mul, Nat.one_mul]]
        exact Nat.mul_le_mul (by omega) (Nat.le_refl _)
      have HQ := Lib.hid hq
      clear hq
      obtain ⟨hs, hA, hC⟩ := HT.out
      have hc1 : wr.cell? ⟨W1.heap.size, k, none⟩ = some (.slice none 0 0) := (hA.cell k).trans (hC.rest k (Nat.le_refl _) hlt)
      have hf1 : wr.frozen? ⟨W1.heap.size, k, none⟩ = false := hA.frozen k
      have NC : Hid (∃ cur : List Value, At (wr.setCell ⟨W1.heap.size, k, none⟩ (.slice (some ⟨w.heap.size + 1, q, none⟩) m m)) (w.heap.size + 1) 5 cur.toArray ∧ Bl cur p) := Lib.hid (by
        obtain ⟨cur, h1, h2⟩ := HU.out
        exact ⟨cur, h1.far (by simp; omega) _, h2⟩)
      have NT : Hid (∃ hs, At (wr.setCell ⟨W1.heap.size, k, none⟩ (.slice (some ⟨w.heap.size + 1, q, none⟩) m m)) W1.heap.size 39 hs ∧ Cut hs (w.heap.size + 1) m (k + 1) n) := Lib.hid ⟨_, hA.set k _, by rw [HQ.out]; exact hC.step hlt⟩
      have NB := Lib.hid (hB.setCell (p := ⟨W1.heap.size, k, none⟩) (by simp; omega) (.slice (some ⟨w.heap.size + 1, q, none⟩) m m))
      clear hA hC HU HT
      have hqm : ¬ (q + m : Nat) = q := by omega
      go_wp2
      go_roundg (n - (k + 1))
      case measure => omega
      case rel => exact ⟨k + 1, by omega, by omega, by go_num, NB.out, by simpa using hsz, NC, NT⟩
    · have hkn : k = n := by omega
      subst hkn
      have FIN : Hid (Gr wr w.heap.size wr.heap.size (some ⟨W1.heap.size, 0, none⟩) k k (blankC k m)) := Lib.hid (by
        obtain ⟨cur, h1, h2⟩ := HU.out
        obtain ⟨hs, h3, h4⟩ := HT.out
        refine ⟨by simp [blankC], (fun h => (by cases h)), by omega, (List.range k).map (fun i => .slice (some ⟨w.heap.size + 1, i * m, none⟩) m m), by simp [blankC], fun _ => ⟨W1.heap.size, 0, rfl, by omega, hsz, fun j u hj => ?_⟩, fun i v l hv hl => ?_⟩
        · have hj2 : j < k := by have := (List.getElem?_eq_some_iff.1 hj).1; simpa using this
          rw [List.getElem?_map, List.getElem?_range hj2, Option.map_some, Option.some.injEq] at hj
          rw [Nat.zero_add, h3.cell j, h4.done j hj2, hj]
        · unfold blankC at hl
          have hi2 : i < k := by have := (List.getElem?_eq_some_iff.1 hl).1; simpa using this
          rw [List.getElem?_map, List.getElem?_range hi2, Option.map_some, Option.some.injEq] at hv
          rw [List.getElem?_replicate, if_pos hi2, Option.some.injEq] at hl
          subst hv hl
          refine ⟨_, m, by rw [List.length_replicate], (fun h => (by cases h)), by rw [List.length_replicate]; omega, fun _ => ⟨w.heap.size + 1, i * m, rfl, by omega, h1.lt, fun j u hj => ?_⟩⟩
          have hj2 : j < m := by have := (List.getElem?_eq_some_iff.1 hj).1; simpa using this
          rw [List.getElem?_map, List.getElem?_replicate, if_pos hj2, Option.map_some, Option.some.injEq] at hj
          have hle : i * m + m ≤ p := by
            rw [HP.out, show i * m + m = (i + 1) * m by rw [Nat.add_mul, Nat.one_mul]]
            exact Nat.mul_le_mul (by omega) (Nat.le_refl _)
          rw [h1.cell, List.getElem?_toArray, h2 (i * m + j) (by omega), ← hj]; rfl)
      clear HU HT
      go_wp2
      go_ret
      exact ⟨_, rfl, FIN.out, hB⟩
abbrev noGrid : Value := .agg #[.int .i64 0, .int .i64 0, .slice none 0 0, .int .i64 0, .int .i64 0]
set_option maxHeartbeats 2000000 in
set_option maxRecDepth 100000 in
/-- New, where none may be. -/
theorem new_no (r c : Int) (h : sized r c = false) (w : World) :
    Calls Try.prog 24 #[.int .i64 r, .int .i64 c] w fun e w' => e = .returned (.tuple #[noGrid, .int .i64 2]) ∧ Below w.heap.size w w' := by
  have C := Lib.hid (fun W => h ▸ mayBe_is r c W)
  clear h
  go_enter Try.func24, Try.ntmps24
  go_wp2_with fail
  go_at_call 31
  refine (C.out _).mono ?_
  rintro e w' ⟨rfl, hw⟩
  have hw := hw.symm
  subst hw
  go_wp2
  refine bodyPost_ret (v := .tuple #[noGrid, .int .i64 2]) (by simp [results, Try.results24, go_sem]) rfl ⟨rfl, ?_⟩
  exact (Below.refl _ _).alloc (Nat.le_refl _) _
set_option maxHeartbeats 2000000 in
set_option maxRecDepth 100000 in
/-- New: a grid of blanks. -/
theorem new_yes (n m : Nat) (hn1 : 2 ≤ n) (hn2 : n ≤ 60) (hm1 : 8 ≤ m) (hm2 : m ≤ 132) (w : World) :
    Calls Try.prog 24 #[.int .i64 n, .int .i64 m] w fun e w' => ∃ h, e = .returned (.tuple #[.agg #[.int .i64 n, .int .i64 m, .slice (some ⟨h, 0, none⟩) n n, .int .i64 0, .int .i64 0], .int .i64 0]) ∧ Gr w' w.heap.size w'.heap.size (some ⟨h, 0, none⟩) n n (blankC n m) ∧ Below w.heap.size w w' := by
  have hsz : sized n m = true := sized_iff.2 (by omega)
  have C := Lib.hid (fun W => hsz ▸ mayBe_is n m W)
  clear hsz
  go_enter Try.func24, Try.ntmps24
  go_wp2_with fail
  go_at_call 31
  refine (C.out _).mono ?_
  rintro e w' ⟨rfl, hw⟩
  have hw := hw.symm
  subst hw
  go_wp2_with fail
  go_at_call 37
  refine (blanks_is n m hn1 hn2 hm1 hm2 _).mono ?_
  rintro e w1 ⟨h, rfl, hG, hB⟩
  have hA := At.keep (At.new w 34 #[.int .i64 0, .int .i64 0, .slice none 0 0, .int .i64 0, .int .i64 0]) hB (by simp)
  have hz := hB.size
  have HB : Hid (Below w.heap.size w w1) := Lib.hid (((Below.refl _ _).alloc (Nat.le_refl _) _).trans (hB.mono (by simp)))
  have HG := Lib.hid (hG.mono (lo' := w.heap.size + 1) (by simp) (Nat.le_refl _))
  have HA := Lib.hid hA
  clear hG hB hA
  go_wp2_with (refine wpList_storeG rfl (.tmp 4) (.tmp 16) rfl w.heap.size n m 0 0 (some ⟨h, 0, none⟩) n n rfl rfl _ HA.out rfl ?_; intro w2 hA2 hBut)
  obtain ⟨c0, c1, c2, c3, c4⟩ := hA2.five
  refine bodyPost_ret (v := .tuple #[.agg #[.int .i64 n, .int .i64 m, .slice (some ⟨h, 0, none⟩) n n, .int .i64 0, .int .i64 0], .int .i64 0]) (by simp [results, Try.results24, go_sem, c0, c1, c2, c3, c4]) rfl ⟨h, rfl, ?_, HB.out.trans (hBut.below (Nat.le_refl _))⟩
  rw [hBut.size]
  exact (HG.out.keep (fun b h1 _ => hBut.block b (by omega))).mono (by omega) (Nat.le_refl _)
end Go.Proofs.Yteekihhngjbjgaa.grd
