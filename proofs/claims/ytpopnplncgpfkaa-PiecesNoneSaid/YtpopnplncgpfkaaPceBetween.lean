/- Pieces: between: the pieces of the lines that stand behind the first a ones, up to the one numbered u. -/
import Derived.Test.YtpopnplncgpfkaaPceBasic
namespace Go.Proofs.Ytpopnplncgpfkaa.pce
open Go.RowKit Go.Lib
set_option linter.unusedVariables false
set_option linter.unusedSimpArgs false
set_option linter.unnecessarySimpa false
set_option linter.unusedSectionVars false

theorem cut_at {w : World} {F : Nat → Prop} {p : Pc} (h : PcAt w F p) (low high : Nat) : PcAt w F (p.cut low high) :=
  ⟨h.mine, h.lt, fun j u hj => by
    simp only [Pc.cut, List.map_drop, List.map_take, List.getElem?_drop, List.getElem?_take] at hj ⊢
    split at hj
    · rw [show p.off + low + j = p.off + (low + j) by omega]
      exact h.cells _ u hj
    · cases hj⟩
theorem one_in {w : World} {F : Nat → Prop} {p : Pc} (h : PcAt w F p) (a u : Int) : ∀ q ∈ one a u p, PcAt w F q := fun q hq => by
  unfold one at hq
  split at hq
  · rw [List.mem_singleton.1 hq]; exact cut_at h _ _
  · cases hq
theorem btw_in {w : World} {F : Nat → Prop} : ∀ (ps : List Pc) (a u : Int), (∀ p ∈ ps, PcAt w F p) → ∀ q ∈ btw a u ps, PcAt w F q
  | [], a, u, h, q, hq => by cases hq
  | p :: r, a, u, h, q, hq => by
    rw [btw_cons, List.mem_append] at hq
    rcases hq with hq | hq
    · exact one_in (h p (by simp)) a u q hq
    · exact btw_in r _ _ (fun p hp => h p (by simp [hp])) q hq

set_option maxHeartbeats 4000000 in
set_option maxRecDepth 100000 in
theorem between_is (w : World) (F : Nat → Prop) (v : Value) (ps : List Pc) (a u : Int) (ha : 0 ≤ a) (ha2 : a ≤ 9223372036854775807) (hu : 0 ≤ u) (hu2 : u ≤ 9223372036854775807) (h : Tab w F v ps) :
    Calls Try.prog 36 #[v, .int .i64 a, .int .i64 u] w fun e w' =>
      ∃ B k c, e = .returned (.slice B k c) ∧ Pcs w' (fun b => F b ∨ w.heap.size ≤ b) B k c (btw a u ps) ∧ Below w.heap.size w w' := by
  obtain ⟨i0, hi, hz0, hz1, hz2⟩ := info_parts info22
  have hml : (1000000 : Nat) ≤ maxLen := by unfold maxLen; omega
  have HL := Lib.hid h.len
  have C := Lib.hid (all_is w F v ps h)
  clear h
  go_enter Try.func36, Try.ntmps36
  go_wp2_with fail
  go_at_call 37
  refine C.out.mono ?_
  rintro e w1 ⟨⟨A, n, c, rfl, hP⟩, rfl⟩
  clear C
  have HP := Lib.hid hP
  have hn : n ≤ 2000 := by have := texts_len hP.full; have := HL.out; rw [hP.len]; omega
  clear hP
  go_wp2
  go_loopg [1, 2, 7, 15] n (fun g s1 s2 s7 s15 wr => ∃ (k m : Nat) (x y : Int), k ≤ n ∧ n - k ≤ g ∧ s15 = .int .i64 k ∧ s1 = .int .i64 x ∧ s2 = .int .i64 y ∧ x = a - at_ ps k ∧ y = u - at_ ps k ∧ m = (btw a u (ps.take k)).length ∧ m ≤ k ∧ wr.ownsRow w.heap.size 22 1 s7 m ((btw a u (ps.take k)).map pv) ∧ Below w.heap.size w wr)
  case atStart => exact ⟨0, 0, a, u, Nat.zero_le _, by omega, rfl, rfl, rfl, by rw [at_zero]; omega, by rw [at_zero]; omega, rfl, Nat.le_refl _, World.ownsRow_nil _ _ _ _, Below.refl _ _⟩
  case round =>
    obtain ⟨k, m, x, y, hk, hg, rfl, rfl, rfl, hx, hy, hm, hmk, hown, hB⟩ := hrel
    have hz := hB.size
    have HM := Lib.hid hm
    clear hm
    have hxl : -2000 ≤ x ∧ x ≤ 9223372036854775807 := by have := at_le ps k; have := HL.out; omega
    have hyl : -2000 ≤ y ∧ y ≤ 9223372036854775807 := by have := at_le ps k; have := HL.out; omega
    have HX := Lib.hid hx
    have HY := Lib.hid hy
    clear hx hy
    obtain ⟨hx1, hx2⟩ := hxl
    obtain ⟨hy1, hy2⟩ := hyl
    by_cases hlt : k < n
    · obtain ⟨p, hp⟩ : ∃ p, ps[k]? = some p := ⟨_, List.getElem?_eq_getElem (by rw [← HP.out.len]; exact hlt)⟩
      have hp2 : (ps.map pv)[k]? = some (pv p) := by rw [List.getElem?_map, hp]; rfl
      obtain ⟨b1, o1, rfl, _, _, hc1⟩ := (HP.out.row.below hB) (by rw [List.length_map, ← HP.out.len]; omega)
      have g1 : wr.cell? ⟨b1, o1 + k, none⟩ = some (.slice (some ⟨p.blk, p.off, none⟩) p.l.length p.l.length) := hc1 k _ hp2
      have T := Lib.hid (at_succ ps k hp)
      have S := Lib.hid (btw_snoc ps k a u hp)
      have hpl : p.l.length ≤ 2000 := by have := piece_len hp; have := HL.out; omega
      clear hc1 hp2 hp
      generalize hl : p.l.length = l at g1 hpl
      have HLN := Lib.hid hl
      clear hl
      by_cases hone : max x 0 < min y l
      · have HO : Hid (one (a - at_ ps k) (u - at_ ps k) p = [p.cut x.toNat (min y l).toNat]) := Lib.hid (by
          rw [← HX.out, ← HY.out]; unfold one; rw [HLN.out, if_pos hone, show (max x 0).toNat = x.toNat by omega])
        obtain ⟨lo, hlo⟩ : ∃ lo : Nat, max x 0 = (lo : Int) := ⟨(max x 0).toNat, by omega⟩
        obtain ⟨hh, hhi⟩ : ∃ hh : Nat, min y (l : Int) = (hh : Int) := ⟨(min y (l : Int)).toNat, by omega⟩
        have hlh : lo < hh := by omega
        have hhl : hh ≤ l := by omega
        have HO2 : Hid (p.cut x.toNat (min y l).toNat = p.cut lo hh) := Lib.hid (by rw [show x.toNat = lo by omega, show (min y (l : Int)).toNat = hh by omega])
        have HQ : Hid (pv (p.cut lo hh) = .slice (some ⟨p.blk, p.off + lo, none⟩) (hh - lo) (hh - lo)) := Lib.hid (by
          unfold pv; rw [cut_len p (by omega) (by rw [HLN.out]; exact hhl)]; rfl)
        clear hone
        go_wp2_with fail
        go_at_call 44
        refine (cut_is wr p.blk p.off l l lo hh hlh hhl (by omega)).mono ?_
        rintro e w2 ⟨rfl, rfl⟩
        go_wp2_with (at_builtin; refine wpList_append_own _ rfl (.tmp 28) (.tmp 33) 50 rfl w.heap.size 22 i0 (.slice none 0 0) 1 24 Try.underlying50 hi hz0 hz1 hz2 rfl (by decide) _ _ _ rfl (hown.alloc _) ⟨wr.heap.size, 0, none⟩ 1 1 [.slice (some ⟨p.blk, p.off + lo, none⟩) (hh - lo) (hh - lo)] rfl rfl (cell_one_new _ _ _) (by intro u hu; simp only [List.mem_singleton] at hu; subst hu; rfl) (by omega) (by omega) (by simp; omega) ?_; intro v1 w1 hown1 hgrow1 _; have hB1 := (hB.alloc hz (.cells #[.slice (some ⟨p.blk, p.off + lo, none⟩) (hh - lo) (hh - lo)] 22)).grown hgrow1 (by simp; omega) (fun j hj => (hown.lt j hj).1))
        have HOWN := Lib.hid hown1
        have HB1 := Lib.hid hB1
        clear hown1 hB1 hgrow1 hown hB
        go_roundg (n - (k + 1))
        case measure => omega
        case rel =>
          have e1 : btw a u (ps.take (k + 1)) = btw a u (ps.take k) ++ [p.cut lo hh] := by rw [S.out, HO.out, HO2.out]
          refine ⟨k + 1, m + 1, x - l, y - l, by omega, by omega, by go_num, by go_num, by go_num, ?_, ?_, ?_, by omega, ?_, HB1.out⟩
          · rw [T.out, HLN.out, HX.out]; omega
          · rw [T.out, HLN.out, HY.out]; omega
          · rw [e1, List.length_append, ← HM.out]; rfl
          · rw [e1, List.map_append, List.map_cons, List.map_nil, HQ.out]; exact HOWN.out
      · have HO : Hid (one (a - at_ ps k) (u - at_ ps k) p = []) := Lib.hid (by
          rw [← HX.out, ← HY.out]; unfold one; rw [HLN.out, if_neg hone])
        obtain ⟨lo, hlo⟩ : ∃ lo : Int, max x 0 = lo := ⟨_, rfl⟩
        obtain ⟨hh, hhi⟩ : ∃ hh : Int, min y (l : Int) = hh := ⟨_, rfl⟩
        have hlh : ¬ lo < hh := by omega
        clear hone
        go_wp2
        go_roundg (n - (k + 1))
        case measure => omega
        case rel =>
          have e1 : btw a u (ps.take (k + 1)) = btw a u (ps.take k) := by rw [S.out, HO.out, List.append_nil]
          refine ⟨k + 1, m, x - l, y - l, by omega, by omega, by go_num, by go_num, by go_num, ?_, ?_, ?_, by omega, ?_, hB⟩
          · rw [T.out, HLN.out, HX.out]; omega
          · rw [T.out, HLN.out, HY.out]; omega
          · rw [e1]; exact HM.out
          · rw [e1]; exact hown
    · have hkn : k = n := by omega
      subst hkn
      have E : Hid (ps.take k = ps) := Lib.hid (by rw [HP.out.len, List.take_length])
      obtain ⟨B, c', rfl, hnil, hmc⟩ := own_form' hown
      go_wp2
      go_ret
      rw [E.out] at hown HM
      refine ⟨B, m, c', rfl, ⟨HM.out, hnil, btw_full _ _ _, ?_, fun q hq => ?_⟩, hB⟩
      · exact (VRd.of_own hown).mono fun b hb _ => .inr hb
      · exact ((btw_in ps a u HP.out.each q hq).keep (fun b _ hb => hB.block b hb) hz).mono fun b hb _ => .inl hb

/-- Of one that is none, nothing. -/
theorem between_no (w : World) (v : Value) (a u : Int) (h : NoTab w v) :
    Calls Try.prog 36 #[v, .int .i64 a, .int .i64 u] w fun e w' => e = .returned (.slice none 0 0) ∧ w = w' := by
  have C := Lib.hid (all_no w v h)
  clear h
  go_enter Try.func36, Try.ntmps36
  go_wp2_with fail
  go_at_call 37
  refine C.out.mono ?_
  rintro e w1 ⟨rfl, rfl⟩
  clear C
  go_wp2
  go_loopg [1, 2, 7, 15] 0 (fun g s1 s2 s7 s15 wr => s15 = .int .i64 0 ∧ wr = w ∧ s7 = .slice none 0 0)
  case atStart => exact ⟨rfl, rfl, rfl⟩
  case round =>
    obtain ⟨rfl, rfl, rfl⟩ := hrel
    go_wp2
    go_ret
    exact ⟨rfl, rfl⟩
end Go.Proofs.Ytpopnplncgpfkaa.pce
