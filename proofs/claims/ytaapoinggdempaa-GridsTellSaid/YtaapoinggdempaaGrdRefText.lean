/- Grids: Text, of the document; how many cells. -/
import Derived.Test.YtaapoinggdempaaGrdText
import Derived.Test.YtaapoinggdempaaGrdRefClone
namespace Go.Proofs.Ytaapoinggdempaa.grd
open Go.RowKit Go.Lib
set_option linter.unusedVariables false
set_option linter.unusedSimpArgs false
set_option linter.unnecessarySimpa false
set_option linter.unusedSectionVars false

theorem take_map_snoc (ls : List (List UInt8)) (k : Nat) (x : List UInt8) (h : ls[k]? = some x) : ((ls.take (k + 1)).map B).map Value.string = ((ls.take k).map B).map Value.string ++ [Value.string (B x)] := by
  rw [take_snoc h, List.map_append, List.map_append]; rfl
set_option maxHeartbeats 4000000 in
set_option maxRecDepth 100000 in
theorem refText_is (R C r k : Int) (A : Option Addr) (n c : Nat) (ls : List (List UInt8)) (w : World) (hf : few ls) (h1 : Gr w 0 w.heap.size A n c ls) :
    Calls Try.prog 22 #[.agg #[.int .i64 R, .int .i64 C, .slice A n c, .int .i64 r, .int .i64 k]] w fun e w' => ∃ A' c', e = .returned (.slice A' n c') ∧ SRd w' w'.heap.size A' (ls.map B) ∧ Below w.heap.size w w' := by
  obtain ⟨i0, hi0, hz0, hz1, hz2⟩ := info_parts info9
  have hml : (1000000 : Nat) ≤ maxLen := by unfold maxLen; omega
  have hn200 : n ≤ 200 := by have := hf.1; have := h1.len; omega
  have N1 := Lib.hid h1.len
  have H1 := Lib.hid h1
  clear h1 hf
  go_enter Try.func22, Try.ntmps22
  go_wp2
  have hA1 := At.new w 24 #[.int .i64 R, .int .i64 C, .slice A n c, .int .i64 r, .int .i64 k]
  have hB0 : Below w.heap.size w (w.alloc (.cells #[.int .i64 R, .int .i64 C, .slice A n c, .int .i64 r, .int .i64 k] 24)) := (Below.refl _ _).alloc (Nat.le_refl _) _
  generalize w.alloc (.cells #[.int .i64 R, .int .i64 C, .slice A n c, .int .i64 r, .int .i64 k] 24) = W0 at hA1 hB0 ⊢
  go_loopg [3, 4] n (fun g s3 s4 wr => ∃ j : Nat, j ≤ n ∧ n - j ≤ g ∧ s4 = .int .i64 j ∧ Below w.heap.size w wr ∧ At wr w.heap.size 24 #[.int .i64 R, .int .i64 C, .slice A n c, .int .i64 r, .int .i64 k] ∧ Hid (wr.ownsRow (w.heap.size + 1) 9 1 s3 j (((ls.take j).map B).map Value.string)))
  case atStart => exact ⟨0, Nat.zero_le _, by omega, rfl, hB0, hA1, Lib.hid (World.ownsRow_nil _ _ _ _)⟩
  case round =>
    obtain ⟨j, hj, hg, rfl, hB, hA, HO⟩ := hrel
    clear hB0 hA1
    have a2 : wr.cell? ⟨w.heap.size, 2, none⟩ = some (.slice A n c) := hA.cell 2
    by_cases hlt : j < n
    · obtain ⟨x, hx⟩ : ∃ x, ls[j]? = some x := ⟨_, List.getElem?_eq_getElem (by rw [← N1.out]; exact hlt)⟩
      obtain ⟨b1, o1, B1, d1, rfl, _, hb1, g1, hnil, _, v1⟩ := (H1.out.below hB (Nat.le_refl _)).at j x hx
      have cv := v1.conv (d := d1)
      have HT := Lib.hid (take_map_snoc ls j x hx)
      have hlt1 := hA.lt
      have HV3 : Hid ((wr.alloc (.cells #[.string (B x)] 9)).ownsRow (w.heap.size + 1) 9 1 u3 j (((ls.take j).map B).map Value.string)) := Lib.hid (own_keep HO.out ((Below.refl _ _).alloc (Nat.le_refl _) _))
      have HBA : Hid (Below wr.heap.size wr (wr.alloc (.cells #[.string (B x)] 9))) := Lib.hid ((Below.refl _ _).alloc (Nat.le_refl _) _)
      have HA := Lib.hid hA
      have HB := Lib.hid hB
      clear hx v1 hA hB hnil
      generalize x.length = m at g1 cv
      go_wp2_with (refine wpList_append_own _ rfl (.tmp 12) (.tmp 19) 37 rfl (w.heap.size + 1) 9 i0 (.string ⟨#[]⟩) 1 16 Try.underlying37 hi0 hz0 hz1 hz2 rfl (by decide) u3 j _ rfl HV3.out ⟨wr.heap.size, 0, none⟩ 1 1 [.string (B x)] rfl rfl (fun q u hq => by
            match q, hq with
            | 0, hq => rw [Go.WideShapes.add_plain]; exact ((At.new wr 9 #[.string (B x)]).cell 0).trans (by simpa using hq)
            | q + 1, hq => simp at hq) (fun u hu => by rw [List.mem_singleton.1 hu]; rfl) (by omega) (by omega) (by simp; omega) ?_; intro v4 w4 hown4 hgrow4 _)
      have HB4 : Hid (Below (w.heap.size + 1) wr w4) := Lib.hid ((HBA.out.mono (by omega)).grown hgrow4 (by simp; omega) (fun k e => (HV3.out.lt k e).1))
      have K1 := Lib.hid (HA.out.keep HB4.out (by omega))
      have K3 := Lib.hid (HB.out.trans (HB4.out.mono (by omega)))
      have HR4 : Hid (w4.ownsRow (w.heap.size + 1) 9 1 v4 (j + 1) (((ls.take (j + 1)).map B).map Value.string)) := Lib.hid (by rw [HT.out]; exact hown4)
      clear hown4 hgrow4
      go_roundg (n - (j + 1))
      case measure => omega
      case rel => exact ⟨j + 1, by omega, by omega, by go_num, K3.out, K1.out, HR4⟩
    · have hjn : j = n := by omega
      subst hjn
      obtain ⟨A', c', rfl, _, _⟩ := own_form' HO.out
      have FIN : Hid (SRd wr wr.heap.size A' (ls.map B)) := Lib.hid (by
        have h := HO.out
        have e : ls.take j = ls := by rw [N1.out, List.take_length]
        rw [e] at h
        have e2 : j = (ls.map B).length := by rw [List.length_map]; exact N1.out
        rw [e2] at h
        exact SRd.of_own h)
      clear HO hA
      go_wp2
      go_ret
      exact ⟨_, _, rfl, FIN.out, hB⟩

def MuchSays (ls : List (List UInt8)) (w : World) (e : Ending) (w' : World) : Prop := ∃ o : Bool, e = .returned (.bool o) ∧ (o = false → few ls) ∧ Below w.heap.size w w'
set_option maxHeartbeats 4000000 in
set_option maxRecDepth 100000 in
theorem much_is (R C r k : Int) (A : Option Addr) (n c : Nat) (ls : List (List UInt8)) (w : World) (h1 : Gr w 0 w.heap.size A n c ls) :
    Calls Try.prog 13 #[.agg #[.int .i64 R, .int .i64 C, .slice A n c, .int .i64 r, .int .i64 k]] w (MuchSays ls w) := by
  have N1 := Lib.hid h1.len
  have hmx := h1.max
  have H1 := Lib.hid h1
  clear h1
  unfold maxLen at hmx
  go_enter Try.func13, Try.ntmps13
  go_wp2
  have hA1 := At.new w 24 #[.int .i64 R, .int .i64 C, .slice A n c, .int .i64 r, .int .i64 k]
  have hB0 : Below w.heap.size w (w.alloc (.cells #[.int .i64 R, .int .i64 C, .slice A n c, .int .i64 r, .int .i64 k] 24)) := (Below.refl _ _).alloc (Nat.le_refl _) _
  generalize w.alloc (.cells #[.int .i64 R, .int .i64 C, .slice A n c, .int .i64 r, .int .i64 k] 24) = W0 at hA1 hB0 ⊢
  have a2 : W0.cell? ⟨w.heap.size, 2, none⟩ = some (.slice A n c) := hA1.cell 2
  have G := Lib.hid (H1.out.below hB0 (Nat.le_refl _))
  have HB := Lib.hid hB0
  clear hA1 hB0 H1
  go_loopg [3, 4] n (fun g s3 s4 wr => ∃ j t : Nat, j ≤ n ∧ j ≤ 200 ∧ n - j ≤ g ∧ s4 = .int .i64 j ∧ s3 = .int .i64 t ∧ wr = W0 ∧ t ≤ 50000 * j ∧ Hid (∀ (i : Nat) l, i < j → ls[i]? = some l → min l.length 50000 ≤ t))
  case atStart => exact ⟨0, 0, Nat.zero_le _, by omega, by omega, rfl, rfl, rfl, by omega, Lib.hid (fun i l hi => absurd hi (Nat.not_lt_zero _))⟩
  case round =>
    obtain ⟨j, t, hj, hj2, hg, rfl, rfl, hw, ht, HT⟩ := hrel
    have hw := hw.symm
    subst hw
    by_cases hlt : j < n
    · by_cases hl2 : j < 200
      · obtain ⟨x, hx⟩ : ∃ x, ls[j]? = some x := ⟨_, List.getElem?_eq_getElem (by rw [← N1.out]; exact hlt)⟩
        obtain ⟨b1, o1, B1, d1, rfl, _, hb1, g1, hnil, hxm, v1⟩ := G.out.at j x hx
        unfold maxLen at hxm
        obtain ⟨m, hm⟩ : ∃ m, m = x.length := ⟨_, rfl⟩
        rw [← hm] at g1 hxm
        obtain ⟨q, hq⟩ : ∃ q : Nat, q = min m 50000 := ⟨_, rfl⟩
        have hqi : min (m : Int) 50000 = (q : Int) := by rw [hq]; omega
        have hq1 : q ≤ 50000 := by rw [hq]; omega
        have q1 : decide ((j : Int) < (n : Int)) = true := by simp; omega
        have q2 : decide ((j : Int) < 200) = true := by simp; omega
        have NT : Hid (∀ (i : Nat) l, i < j + 1 → ls[i]? = some l → min l.length 50000 ≤ t + q) := Lib.hid (fun i l hi hl => by
          by_cases e : i = j
          · subst e
            rw [hx, Option.some.injEq] at hl
            subst hl
            rw [hq, hm]; omega
          · have := HT.out i l (by omega) hl
            omega)
        clear hx hm v1 hnil hq
        go_wp2
        go_roundg (n - (j + 1))
        case measure => omega
        case rel => exact ⟨j + 1, t + q, by omega, by omega, by omega, by go_num, by go_num, rfl, by omega, NT⟩
      · have q1 : decide ((j : Int) < (n : Int)) = true := by simp; omega
        have q2 : decide ((j : Int) < 200) = false := by simp; omega
        have q3 : decide (200 < (n : Int)) = true := by simp; omega
        go_wp2
        go_ret
        exact ⟨_, rfl, fun e => (by cases e), HB.out⟩
    · have q1 : decide ((j : Int) < (n : Int)) = false := by simp; omega
      have hjn : j = n := by omega
      have q3 : decide (200 < (n : Int)) = false := by simp; omega
      by_cases hbig : 20000 < t
      · have q4 : decide (20000 < (t : Int)) = true := by simp; omega
        go_wp2
        go_ret
        exact ⟨_, rfl, fun e => (by cases e), HB.out⟩
      · have q4 : decide (20000 < (t : Int)) = false := by simp; omega
        have F : Hid (few ls) := Lib.hid ⟨by have := N1.out; omega, fun l hl => by
          obtain ⟨i, hi, rfl⟩ := List.getElem_of_mem hl
          have := HT.out i _ (by have := N1.out; omega) (List.getElem?_eq_getElem hi)
          omega⟩
        go_wp2
        go_ret
        exact ⟨_, rfl, fun _ => F.out, HB.out⟩
end Go.Proofs.Ytaapoinggdempaa.grd
