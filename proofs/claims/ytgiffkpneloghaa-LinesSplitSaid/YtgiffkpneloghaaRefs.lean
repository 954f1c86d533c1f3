/- The document's Split and Join and Check (inkhornref01), walked. -/
import Derived.Test.YtgiffkpneloghaaLawParts
namespace Go.Proofs.Ytgiffkpneloghaa
open Go.RowKit Go.Shelf Go.Lib

/-- So far: the ended lines pre stand ahead of place f, and from f up to k there is no byte 10. -/
def SoFar (t : List UInt8) (pre : List (List UInt8)) (f k : Nat) : Prop :=
  f ≤ k ∧ k ≤ t.length ∧ pre.length ≤ f ∧ lns t = pre.map (fun x => (x, true)) ++ lns (t.drop f) ∧ ∀ j, f ≤ j → j < k → t[j]? ≠ some 10

theorem SoFar.start (t : List UInt8) : SoFar t [] 0 0 := ⟨Nat.le_refl _, Nat.zero_le _, by simp, by simp, fun j _ h => absurd h (by omega)⟩
theorem SoFar.hit {t : List UInt8} {pre : List (List UInt8)} {f k : Nat} (h : SoFar t pre f k) (hk : t[k]? = some 10) : SoFar t (pre ++ [(t.drop f).take (k - f)]) (k + 1) (k + 1) := by
  obtain ⟨h1, h2, h3, h4, h5⟩ := h
  have hlt := (List.getElem?_eq_some_iff.1 hk).1
  refine ⟨Nat.le_refl _, hlt, by simp; omega, ?_, fun j _ h => absurd h (by omega)⟩
  have hc := cut10_some (t.drop f) (k - f) (by rw [List.getElem?_drop, show f + (k - f) = k by omega]; exact hk) (fun j hj => by rw [List.getElem?_drop]; exact h5 _ (by omega) (by omega))
  have hne : t.drop f ≠ [] := fun e => by have := congrArg List.length e; rw [List.length_drop] at this; simp at this; omega
  rw [h4, lns_cut _ hne, hc]
  simp only [List.map_append, List.map_cons, List.map_nil, List.append_assoc, List.singleton_append, List.drop_drop]
  rw [show f + (k - f + 1) = k + 1 by omega]
theorem SoFar.miss {t : List UInt8} {pre : List (List UInt8)} {f k : Nat} (h : SoFar t pre f k) (hlt : k < t.length) (hk : t[k]? ≠ some 10) : SoFar t pre f (k + 1) := by
  obtain ⟨h1, h2, h3, h4, h5⟩ := h
  refine ⟨by omega, hlt, h3, h4, fun j hj hj2 => ?_⟩
  by_cases e : j = k
  · subst e; exact hk
  · exact h5 j hj (by omega)
theorem SoFar.whole {t : List UInt8} {pre : List (List UInt8)} {k : Nat} (h : SoFar t pre t.length k) : lns t = pre.map (fun x => (x, true)) := by
  rw [h.2.2.2.1]; simp [lns]
theorem SoFar.rest {t : List UInt8} {pre : List (List UInt8)} {f : Nat} (h : SoFar t pre f t.length) (hf : f < t.length) : lns t = pre.map (fun x => (x, true)) ++ [(t.drop f, false)] := by
  obtain ⟨h1, h2, h3, h4, h5⟩ := h
  have hne : t.drop f ≠ [] := fun e => by have := congrArg List.length e; rw [List.length_drop] at this; simp at this; omega
  have hn : (10 : UInt8) ∉ t.drop f := fun hm => by
    obtain ⟨j, hj⟩ := List.getElem?_of_mem hm
    rw [List.getElem?_drop] at hj
    have := (List.getElem?_eq_some_iff.1 hj).1
    exact h5 _ (by omega) (by omega) hj
  rw [h4, lns_cut _ hne, cut10_none _ hn]
  simp [lns]
theorem last_all (pre : List (List UInt8)) : last (pre.map fun x => (x, true)) = true := by
  unfold last
  rw [List.getLast?_map]
  cases pre.getLast? <;> simp
theorem texts_all (pre : List (List UInt8)) : texts (pre.map fun x => (x, true)) = pre.map B := by simp [texts]

/-- What stands in a row while the document's Split goes. -/
def strs' (pre : List (List UInt8)) : List Value := (pre.map B).map Value.string
theorem strs'_snoc (pre : List (List UInt8)) (x : List UInt8) : strs' (pre ++ [x]) = strs' pre ++ [Value.string (B x)] := by simp [strs']

set_option maxHeartbeats 2000000 in
set_option maxRecDepth 100000 in
theorem refSplit11 (s : ByteArray) (hs : s.size ≤ 100000) (w : World) :
    Calls Try.prog 11 #[.string s] w fun e W' => ∃ A c n zs b, e = .returned (.tuple #[.slice A n c, .bool b]) ∧ SplitSays s n zs b ∧ W'.ownsRow w.heap.size 9 1 (.slice A n c) n (zs.map Value.string) ∧ SRd W' W'.heap.size A zs ∧ Below w.heap.size w W' := by
  obtain ⟨i0, hi, hz0, hz1, hz2⟩ := info_parts info9
  have hml : (1000000 : Nat) ≤ maxLen := by unfold maxLen; omega
  have SZ := Lib.hid (size_list s)
  go_enter Try.func11, Try.ntmps11
  go_wp2
  go_loopg [4, 5, 6] s.size (fun g s4 s5 s6 wr => ∃ (k f : Nat) (pre : List (List UInt8)), k ≤ s.size ∧ s.size - k ≤ g ∧ f ≤ k ∧ pre.length ≤ f ∧ s6 = .int .i64 k ∧ s5 = .int .i64 f ∧ wr.ownsRow w.heap.size 9 1 s4 pre.length (strs' pre) ∧ Below w.heap.size w wr ∧ SoFar s.data.toList pre f k)
  case atStart => exact ⟨0, 0, [], Nat.zero_le _, by omega, Nat.le_refl _, by simp, rfl, rfl, World.ownsRow_nil _ _ _ _, Below.refl _ _, SoFar.start _⟩
  case round =>
    obtain ⟨k, f, pre, hk, hg, hfk, hpl, rfl, rfl, hown, hB, hso⟩ := hrel
    have SO := Lib.hid hso
    have hz := hB.size
    clear hso
    by_cases hlt : k < s.size
    · have hget : s.data.toList[k]? = some s[k] := by rw [List.getElem?_eq_getElem (by rw [SZ.out]; exact hlt)]; rfl
      have HG := Lib.hid hget
      clear hget
      by_cases h10 : s[k] = 10
      · have hI : ((s[k].toNat : Int) == 10) = true := by rw [h10]; rfl
        have SO2 := Lib.hid (SO.out.hit (by rw [HG.out, h10]))
        have EX := Lib.hid (extract_B s f k)
        clear h10
        go_wp2_with (at_builtin; refine wpList_append_own _ rfl (.tmp 17) (.tmp 22) 22 rfl w.heap.size 9 i0 (.string ⟨#[]⟩) 1 16 Try.underlying22 hi hz0 hz1 hz2 rfl (by decide) _ _ _ rfl (hown.alloc _) ⟨wr.heap.size, 0, none⟩ 1 1 [.string (s.extract f k)] rfl rfl (cell_one_new _ _ _) (one_str _) (by omega) (by omega) (by simp; omega) ?_; intro v1 w1 hown1 hgrow1 _; have hB1 := (hB.alloc hz (.cells #[.string (s.extract f k)] 9)).grown hgrow1 (by simp; omega) (fun j hj => (hown.lt j hj).1))
        go_roundg (s.size - (k + 1))
        case measure => omega
        case rel =>
          refine ⟨k + 1, k + 1, _, by omega, by omega, by omega, SO2.out.2.2.1, by go_num, by go_num, ?_, hB1, SO2.out⟩
          rw [strs'_snoc, List.length_append, ← EX.out]; exact hown1
      · have hI : ((s[k].toNat : Int) == 10) = false := by
          have : ¬ s[k].toNat = 10 := fun e => h10 (UInt8.toNat_inj.1 e)
          simpa using fun h => this (by omega)
        have SO2 := Lib.hid (SO.out.miss (by rw [SZ.out]; exact hlt) (by rw [HG.out]; exact fun e => h10 (Option.some.inj e)))
        clear h10
        go_wp2
        go_roundg (s.size - (k + 1))
        case measure => omega
        case rel => exact ⟨k + 1, f, pre, by omega, by omega, by omega, hpl, by go_num, rfl, hown, hB, SO2.out⟩
    · have hks : k = s.size := by omega
      subst hks
      by_cases hf : f = s.size
      · subst hf
        have hw := SoFar.whole (k := s.size) (by have := SO.out; rwa [← SZ.out] at this ⊢)
        have HW := Lib.hid hw
        obtain ⟨A, c, rfl⟩ := own_form hown
        clear hw
        go_wp2
        go_ret2
        refine ⟨A, c, pre.length, pre.map B, true, rfl, ⟨by simp, ?_, ?_, by omega⟩, hown, SRd.of_row (zs := pre.map B) (more := []) (m := pre.length) (by simp) (by simpa [strs'] using hown), hB⟩
        · rw [HW.out, texts_all]
        · rw [HW.out, last_all]
      · have hne : ¬ (f : Int) = (s.size : Int) := by omega
        have hw := SoFar.rest (t := s.data.toList) (f := f) (pre := pre) (by have := SO.out; rwa [← SZ.out] at this) (by rw [SZ.out]; omega)
        have HW := Lib.hid hw
        have EX := Lib.hid (extract_end s f)
        clear hw
        go_wp2_with (at_builtin; refine wpList_append_own _ rfl (.tmp 31) (.tmp 35) 22 rfl w.heap.size 9 i0 (.string ⟨#[]⟩) 1 16 Try.underlying22 hi hz0 hz1 hz2 rfl (by decide) _ _ _ rfl (hown.alloc _) ⟨wr.heap.size, 0, none⟩ 1 1 [.string (s.extract f s.size)] rfl rfl (cell_one_new _ _ _) (one_str _) (by omega) (by omega) (by simp; omega) ?_; intro v1 w1 hown1 hgrow1 _; have hB1 := (hB.alloc hz (.cells #[.string (s.extract f s.size)] 9)).grown hgrow1 (by simp; omega) (fun j hj => (hown.lt j hj).1); obtain ⟨A, c, rfl⟩ := own_form hown1)
        go_ret2
        have hr : w1.ownsRow w.heap.size 9 1 (.slice A (pre.length + 1) c) (pre.length + 1) ((pre.map B ++ [B (s.data.toList.drop f)]).map Value.string) := by
          rw [← EX.out, List.map_append]; exact hown1
        refine ⟨A, c, pre.length + 1, pre.map B ++ [B (s.data.toList.drop f)], false, rfl, ⟨by simp, ?_, ?_, by omega⟩, hr, SRd.of_row (zs := pre.map B ++ [B (s.data.toList.drop f)]) (more := []) (m := pre.length + 1) (by simp) (by simpa using hr), hB1⟩
        · rw [HW.out]; simp [texts]
        · rw [HW.out]; simp [last]
end Go.Proofs.Ytgiffkpneloghaa
