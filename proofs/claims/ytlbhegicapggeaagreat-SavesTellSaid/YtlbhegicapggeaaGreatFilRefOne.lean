/- Files: the two systems tell the same. -/
import Derived.Test.YtlbhegicapggeaaGreatFilRefBy
import Derived.Test.YtlbhegicapggeaaGreatFilGo
import Derived.Deep.RegionHeld3
namespace Go.Proofs.YtlbhegicapggeaaGreat.fil
open Go.RowKit Go.Lib Go.Maps Go.WideMaps
set_option linter.unusedVariables false
set_option linter.unusedSimpArgs false
set_option linter.unnecessarySimpa false
set_option linter.unusedSectionVars false

theorem num_yes (A1 A2 : Option Addr) (c d k lo hi lo2 hi2 : Nat) (xs : List Int) (w : World) (hk : k = xs.length) (hb1 : k ≤ 100000) (h1 : LRd w lo hi A1 (iv xs)) (h2 : LRd w lo2 hi2 A2 (iv xs)) :
    Calls Tryz.prog 48 #[.slice A1 k c, .slice A2 k d] w fun e w' => e = .returned (.bool true) ∧ Below w.heap.size w w' :=
  (numbers_l A1 A2 c d k k lo hi lo2 hi2 xs xs w hk hk hb1 hb1 h1 h2).mono fun e w' ⟨he, hB⟩ => ⟨by rw [he]; simp, hB⟩

/-- What stays while One goes on. -/
def Still (rb : Nat) (s : St) (w0 W : World) : Prop := W.cell? ⟨rb, 1, none⟩ = some (.int .i64 s.starts) ∧ W.cell? ⟨rb, 2, none⟩ = some (.bool s.off) ∧ More w0.heap.size w0 W
theorem Still.b {rb : Nat} {s : St} {w0 W : World} (h : Still rb s w0 W) : Below w0.heap.size w0 W := h.2.2
theorem Still.mk' {rb : Nat} {s : St} {w0 W : World} {G : Nat → Prop} (h : RIs w0 rb s G) (hB : Below w0.heap.size w0 W) : Still rb s w0 W := by
  obtain ⟨v, kv, z, fl, h⟩ := h.below hB
  exact ⟨h.cells.2.1, h.cells.2.2.1, hB⟩

section
variable {fb rb : Nat} {s : St} {F G : Nat → Prop}
set_option maxHeartbeats 2000000 in
set_option maxRecDepth 100000 in
theorem one_is (w : World) (h : IsFs w fb s F) (h2 : RIs w rb s G) :
    Calls Tryz.prog 15 #[.pointer (some ⟨fb, 0, none⟩), .pointer (some ⟨rb, 0, none⟩)] w fun e w' => e = .returned (.bool true) ∧ Below w.heap.size w w' := by
  have CN := Lib.hid (names_has ⟨F, h⟩)
  have hfew := h.ok.few
  have HNM := Lib.hid h.ok.nm
  have HF := Lib.hid h
  have HG := Lib.hid h2
  clear h h2
  generalize hll : s.files.length = n at *
  have HL := Lib.hid hll
  clear hll
  go_enter Tryz.func15, Tryz.ntmps15
  go_wp2_with fail
  go_at_call 45
  refine CN.out.mono ?_
  rintro e w1 ⟨A3, c3, rfl, a1, a2, a3, a4⟩
  clear CN
  have hc9 : c3 ≤ 9223372036854775807 := by unfold maxLen at a2; omega
  have hs1 := a4.size
  have L3 := Lib.hid a3
  have HF1 := Lib.hid (HF.out.below a4)
  have HG1 := Lib.hid (HG.out.below a4)
  have HB1 := Lib.hid a4
  clear a3 a4
  go_wp2
  go_loopg [6] n (fun g s6 wr => ∃ i : Nat, s6 = .int .i64 i ∧ i ≤ n ∧ n - i ≤ g ∧ Below w1.heap.size w1 wr)
  case atStart => exact ⟨0, rfl, Nat.zero_le _, by omega, Below.refl _ _⟩
  case round =>
    obtain ⟨i, rfl, hi, hg, hB⟩ := hrel
    have hsz := hB.size
    by_cases hlt : i < n
    · obtain ⟨x, hx⟩ : ∃ x, s.files[i]? = some x := ⟨s.files[i]'(by rw [HL.out]; exact hlt), List.getElem?_eq_getElem _⟩
      have hxn := isNm_le (HNM.out x (List.mem_of_getElem? hx))
      have hxm : (B x.name).size ≤ maxLen := by rw [B_size]; unfold maxLen; omega
      obtain ⟨nb, no, rfl, _, _, nc⟩ := (L3.out.below hB) (by rw [strV_length, namesOf_length, HL.out]; omega)
      have q0 : wr.cell? ⟨nb, no + i, none⟩ = some (.string (B x.name)) := nc i _ (by simp [strV, namesOf, hx])
      have CR := Lib.hid (read_has (B x.name) hxm ⟨F, HF1.out.below hB⟩)
      have CR2 : Hid (Calls Tryz.prog 21 #[.pointer (some ⟨rb, 0, none⟩), .string (B x.name)] wr fun e w' => e = .returned (.tuple #[.string (B (reads s (B x.name).data.toList).1), .int .i64 (reads s (B x.name).data.toList).2]) ∧ wr = w') := Lib.hid (by
        obtain ⟨v, kv, z, fl, h⟩ := HG1.out.below hB
        exact refRead_is (B x.name) wr hxm h)
      clear nc hx hxn hxm
      generalize B (reads s (B x.name).data.toList).1 = xb at *
      generalize (reads s (B x.name).data.toList).2 = xz at *
      generalize B x.name = xn at *
      have hbb : (xb.toList == xb.toList) = true := by simp
      have hzz : (xz != xz) = false := by simp
      go_wp2_with fail
      go_at_call 18
      refine CR.out.mono ?_
      rintro e w' ⟨rfl, rfl⟩
      clear CR
      go_wp2_with fail
      go_at_call 21
      refine CR2.out.mono ?_
      rintro e w' ⟨rfl, rfl⟩
      clear CR2
      go_wp2
      go_roundg (n - (i + 1))
      case measure => omega
      case rel => exact ⟨i + 1, by go_num, by omega, by omega, hB⟩
    · obtain rfl : i = n := by omega
      have L3r := Lib.hid (L3.out.below hB)
      have HFr := Lib.hid (HF1.out.below hB)
      have HGr := Lib.hid (HG1.out.below hB)
      have HBr := Lib.hid (HB1.out.trans (hB.mono hs1))
      clear hB
      have S0 : Still rb s wr wr.drew := Still.mk' HGr.out (below_drew (Below.refl _ _))
      have D1 : Hid (∀ W, Still rb s wr W → Calls Tryz.prog 47 #[.pointer (some ⟨rb, 0, none⟩)] W fun e w' => ∃ A c, e = .returned (.slice A i c) ∧ i ≤ c ∧ c ≤ maxLen ∧ LRd w' W.heap.size w'.heap.size A (strV (namesOf s.files)) ∧ Below W.heap.size W w' ∧ Still rb s wr w') := Lib.hid (fun W hW => by
        obtain ⟨v, kv, z, fl, h⟩ := HGr.out.below hW.b
        exact (refNames_is W h).mono fun e w' ⟨A, c, h1, h2, h3, h4, h5⟩ => ⟨A, c, by rw [h1, HL.out], by rw [← HL.out]; exact h2, h3, h4, h5, Still.mk' HGr.out (hW.b.trans (h5.mono hW.b.size))⟩)
      have D2 : Hid (∀ W A2 c2 lo2 hi2, Still rb s wr W → hi2 ≤ W.heap.size → LRd W lo2 hi2 A2 (strV (namesOf s.files)) → Calls Tryz.prog 46 #[.slice A3 i c3, .slice A2 i c2] W fun e w' => e = .returned (.bool true) ∧ Still rb s wr w') := Lib.hid (fun W A2 c2 lo2 hi2 hW hh hl =>
        (same_yes A3 A2 c3 c2 i w.heap.size w1.heap.size lo2 hi2 (namesOf s.files) W (by rw [namesOf_length, HL.out]) (by omega) (by have := hW.b.size; omega) hh (L3r.out.below hW.b) hl).mono fun e w' ⟨he, hB⟩ => ⟨he, Still.mk' HGr.out (hW.b.trans (hB.mono hW.b.size))⟩)
      have D3 : Hid (∀ W, Still rb s wr W → Calls Tryz.prog 49 #[.pointer (some ⟨fb, 0, none⟩)] W fun e w' => ∃ A c, e = .returned (.slice A i c) ∧ i ≤ c ∧ c ≤ maxLen ∧ LRd w' W.heap.size w'.heap.size A (iv (airOf s.files)) ∧ Below W.heap.size W w' ∧ Still rb s wr w') := Lib.hid (fun W hW =>
        (uns_has ⟨F, HFr.out.below hW.b⟩).mono fun e w' ⟨A, c, h1, h2, h3, h4, h5⟩ => ⟨A, c, by rw [h1, HL.out], by rw [← HL.out]; exact h2, h3, h4, h5, Still.mk' HGr.out (hW.b.trans (h5.mono hW.b.size))⟩)
      have D4 : Hid (∀ W, Still rb s wr W → Calls Tryz.prog 50 #[.pointer (some ⟨rb, 0, none⟩)] W fun e w' => ∃ A c, e = .returned (.slice A i c) ∧ i ≤ c ∧ c ≤ maxLen ∧ LRd w' W.heap.size w'.heap.size A (iv (airOf s.files)) ∧ Below W.heap.size W w' ∧ Still rb s wr w') := Lib.hid (fun W hW => by
        obtain ⟨v, kv, z, fl, h⟩ := HGr.out.below hW.b
        exact (refUns_is W h).mono fun e w' ⟨A, c, h1, h2, h3, h4, h5⟩ => ⟨A, c, by rw [h1, HL.out], by rw [← HL.out]; exact h2, h3, h4, h5, Still.mk' HGr.out (hW.b.trans (h5.mono hW.b.size))⟩)
      have D5 : Hid (∀ W A5 c5 A6 c6 lo hi lo2 hi2, Still rb s wr W → LRd W lo hi A5 (iv (airOf s.files)) → LRd W lo2 hi2 A6 (iv (airOf s.files)) → Calls Tryz.prog 48 #[.slice A5 i c5, .slice A6 i c6] W fun e w' => e = .returned (.bool true) ∧ Still rb s wr w') := Lib.hid (fun W A5 c5 A6 c6 lo hi lo2 hi2 hW k1 k2 =>
        (num_yes A5 A6 c5 c6 i lo hi lo2 hi2 (airOf s.files) W (by rw [airOf_length, HL.out]) (by omega) k1 k2).mono fun e w' ⟨he, hB⟩ => ⟨he, Still.mk' HGr.out (hW.b.trans (hB.mono hW.b.size))⟩)
      have D6 : Hid (∀ W, Still rb s wr W → Calls Tryz.prog 51 #[.pointer (some ⟨fb, 0, none⟩)] W fun e w' => e = .returned (.int .i64 (total s.files)) ∧ Still rb s wr w') := Lib.hid (fun W hW =>
        (size_has ⟨F, HFr.out.below hW.b⟩).mono fun e w' ⟨he, hB⟩ => ⟨he, Still.mk' HGr.out (hW.b.trans (hB.mono hW.b.size))⟩)
      have D7 : Hid (∀ W, Still rb s wr W → Calls Tryz.prog 52 #[.pointer (some ⟨rb, 0, none⟩)] W fun e w' => e = .returned (.int .i64 (total s.files)) ∧ Still rb s wr w') := Lib.hid (fun W hW => by
        obtain ⟨v, kv, z, fl, h⟩ := HGr.out.below hW.b
        exact (refSize_is W h).mono fun e w' ⟨he, hB⟩ => ⟨he, by subst hB; exact hW⟩)
      have D8 : Hid (∀ W, Still rb s wr W → Calls Tryz.prog 53 #[.pointer (some ⟨fb, 0, none⟩)] W fun e w' => e = .returned (.bool (!s.off)) ∧ Still rb s wr w') := Lib.hid (fun W hW =>
        (up_has ⟨F, HFr.out.below hW.b⟩).mono fun e w' ⟨he, hB⟩ => ⟨he, by subst hB; exact hW⟩)
      have D9 : Hid (∀ W, Still rb s wr W → Calls Tryz.prog 54 #[.pointer (some ⟨fb, 0, none⟩)] W fun e w' => e = .returned (.int .i64 s.starts) ∧ Still rb s wr w') := Lib.hid (fun W hW =>
        (starts_has ⟨F, HFr.out.below hW.b⟩).mono fun e w' ⟨he, hB⟩ => ⟨he, by subst hB; exact hW⟩)
      generalize total s.files = T at *
      have hTT : ((T : Int) == (T : Int)) = true := by simp
      have hSS : ((s.starts : Int) == (s.starts : Int)) = true := by simp
      have hOO : ((!s.off) == (!s.off)) = true := by simp
      clear L3 HF HG HF1 HG1
      obtain ⟨S1, S2, S3⟩ := S0
      go_wp2_with fail
      go_region_held3 (fun W => W.cell? ⟨rb, 1, none⟩ = some (.int .i64 s.starts) ∧ W.cell? ⟨rb, 2, none⟩ = some (.bool s.off) ∧ More wr.heap.size wr W) (first | assumption | exact ⟨by assumption, by assumption, by assumption⟩)
        (first
          | (go_at_call 47; refine (D1.out _ ?_).mono ?_; (assumption); rintro e w2 ⟨A2, c2, rfl, y1, y2, y3, y4, hS⟩)
          | (go_at_call 46; refine (D2.out _ _ _ _ _ ?_ (Nat.le_refl _) y3).mono ?_; (assumption); rintro e w3 ⟨rfl, hS⟩)
          | (go_at_call 49; refine (D3.out _ ?_).mono ?_; (assumption); rintro e w4 ⟨A4, c4, rfl, u1, u2, u3, u4, hS⟩)
          | (go_at_call 50; refine (D4.out _ ?_).mono ?_; (assumption); rintro e w5 ⟨A5, c5, rfl, v1, v2, v3, v4, hS⟩)
          | (go_at_call 48; refine (D5.out _ _ _ _ _ _ _ _ _ ?_ (u3.below v4) v3).mono ?_; (assumption); rintro e w6 ⟨rfl, hS⟩)
          | (go_at_call 51; refine (D6.out _ ?_).mono ?_; (assumption); rintro e w7 ⟨rfl, hS⟩)
          | (go_at_call 52; refine (D7.out _ ?_).mono ?_; (assumption); rintro e w8 ⟨rfl, hS⟩)
          | (go_at_call 53; refine (D8.out _ ?_).mono ?_; (assumption); rintro e w9 ⟨rfl, hS⟩)
          | (go_at_call 54; refine (D9.out _ ?_).mono ?_; (assumption); rintro e w10 ⟨rfl, hS⟩))
      rename_i hS
      have hE : Below wr.heap.size wr _ := hS.2.2
      clear S1 S2 S3
      go_wp2
      go_ret
      exact ⟨rfl, HBr.out.trans (hE.mono HBr.out.size)⟩
end
end Go.Proofs.YtlbhegicapggeaaGreat.fil
