/- VtCut: it makes no difference how what is written is cut. -/
import Derived.Test.YteekihhngjbjgaaVttLawKit
namespace Go.Proofs.Yteekihhngjbjgaa.vtt
open Go.RowKit Go.Lib Go.Proofs.Yteekihhngjbjgaa.grd
set_option linter.unusedVariables false
set_option linter.unusedSimpArgs false
set_option linter.unnecessarySimpa false
set_option linter.unusedSectionVars false

set_option maxHeartbeats 8000000 in
set_option maxRecDepth 100000 in
theorem law_cut (x y : Nat) (hx : x < 256) (hy : y < 256) (l : List UInt8) (hl : l.length ≤ maxLen) (q : Nat) (hq : q < 65536) (w : World) :
    Calls Try.prog 5 #[.agg #[.int .u8 x, .int .u8 y], .string (B l), .int .u16 q] w (Yes w) := by
  unfold maxLen at hl
  have hsz : (B l).size = l.length := B_size l
  have CM := Lib.hid (fun W => made_is x y hx hy W)
  have hzz : 2 ≤ 2 + x % 59 ∧ 2 + x % 59 ≤ 60 ∧ 8 ≤ 8 + y % 125 ∧ 8 + y % 125 ≤ 132 := by omega
  generalize 2 + x % 59 = n at CM hzz
  generalize 8 + y % 125 = m at CM hzz
  have HZ := Lib.hid hzz
  have hbox : Hid (Below w.heap.size w (w.alloc (.cells #[.int .u8 x, .int .u8 y] 48))) := Lib.hid ((Below.refl _ _).alloc (Nat.le_refl _) _)
  have HX := Lib.hid (At.new w 48 #[.int .u8 x, .int .u8 y])
  clear hzz hx hy
  obtain ⟨z, hz⟩ : ∃ z, z = l.length := ⟨_, rfl⟩
  rw [← hz] at hl hsz
  have HL := Lib.hid hz
  clear hz
  by_cases h3 : 3000 < z
  · have d3 : decide ((3000 : Int) < (z : Int)) = true := by simp; omega
    go_enter Try.func5, Try.ntmps5
    go_wp2
    go_ret
    exact ⟨rfl, hbox.out⟩
  · have d3 : decide ((3000 : Int) < (z : Int)) = false := by simp; omega
    obtain ⟨K, hK⟩ : ∃ K, K = q % (z + 1) := ⟨_, rfl⟩
    have hKi : (q : Int) % ((z : Int) + 1) = (K : Int) := by rw [hK]; push_cast; rfl
    have hKz : K ≤ z := by rw [hK]; have := Nat.mod_lt q (show 0 < z + 1 by omega); omega
    have hT1 : ∀ W, (Instr.slice 9 (.string (B l)) none (some (.int .i64 (K : Int))) none).run Try.prog W = .ok (.string (B (l.take K))) W := fun W => slice_front l K _ rfl (by rw [← HL.out]; exact hKz) W
    have hT2 : ∀ W, (Instr.slice 9 (.string (B l)) (some (.int .i64 (K : Int))) none none).run Try.prog W = .ok (.string (B (l.drop K))) W := fun W => slice_drop l K _ rfl (by rw [← HL.out]; exact hKz) W
    obtain ⟨s, hs⟩ : ∃ s, s = feed (new n m) l := ⟨_, rfl⟩
    obtain ⟨s1, hs1⟩ : ∃ s1, s1 = feed (new n m) (l.take K) := ⟨_, rfl⟩
    have HS := Lib.hid hs
    have HS1 := Lib.hid hs1
    have HS2 : Hid (feed s1 (l.drop K) = s) := Lib.hid (by rw [hs1, hs, ← feed_append, List.take_append_drop])
    have OK : Hid (Ok s) := Lib.hid (by rw [hs]; exact (Ok.new HZ.out).feed l)
    have OK1 : Hid (Ok s1) := Lib.hid (by rw [hs1]; exact (Ok.new HZ.out).feed _)
    have HLT : Hid ((l.take K).length ≤ 3000) := Lib.hid (by rw [List.length_take]; omega)
    have HLD : Hid ((l.drop K).length ≤ 3000) := Lib.hid (by rw [List.length_drop]; have := HL.out; omega)
    have hz3 : z ≤ 3000 := by omega
    clear hs hs1 hK
    go_enter Try.func5, Try.ntmps5
    go_wp2_with fail
    have HX1 := HX
    generalize w.alloc (.cells #[.int .u8 x, .int .u8 y] 48) = wb at hbox HX HX1 ⊢
    obtain ⟨bx, hbx⟩ : ∃ bx, bx = w.heap.size := ⟨_, rfl⟩
    have SK : Hid (∀ W, More wb.heap.size wb W → (W.cell? ⟨w.heap.size, 0, none⟩ = some (.int .u8 x) ∧ W.cell? ⟨w.heap.size, 1, none⟩ = some (.int .u8 y)) ∧ More wb.heap.size wb W) := Lib.hid fun W hM => ⟨⟨(HX.out.keep hM HX.out.lt).cell 0, (HX.out.keep hM HX.out.lt).cell 1⟩, hM⟩
    have hM0 : More wb.heap.size wb wb.drew := more_drew (Below.refl _ _)
    have hd0 : wb.heap.size ≤ wb.drew.heap.size := Nat.le_refl _
    clear hbx HX1
    refine wp_region_noPanic ?_
    refine wp_region_held_drew (S := fun W => (W.cell? ⟨w.heap.size, 0, none⟩ = some (.int .u8 x) ∧ W.cell? ⟨w.heap.size, 1, none⟩ = some (.int .u8 y)) ∧ More wb.heap.size wb W) (by kernel_rfl) (by (try dsimp only); exact SK.out _ hM0) (fun hHeld => ?_)
    refine held.take (i := 0) (v := .pointer (some ⟨w.heap.size, 0, none⟩)) rfl (by kernel_rfl) (by kernel_rfl) (by kernel_rfl) (fun _ _ _ h => h) (Or.inl ⟨by rfl, fun W hW => by (try dsimp only at hW); go_simp⟩) (by assumption) ?_
    (try simp only [Act.put, List.setIfInBounds_toArray, List.set_cons_zero, List.set_cons_succ])
    refine held.take (i := 1) (v := .int .u8 x) rfl (by kernel_rfl) (by kernel_rfl) (by kernel_rfl) (fun _ _ _ h => h) (Or.inl ⟨by rfl, fun W hW => by (try dsimp only at hW); go_simp⟩) (by assumption) ?_
    (try simp only [Act.put, List.setIfInBounds_toArray, List.set_cons_zero, List.set_cons_succ])
    refine held.take (i := 2) (v := .pointer (some ⟨w.heap.size, 1, none⟩)) rfl (by kernel_rfl) (by kernel_rfl) (by kernel_rfl) (fun _ _ _ h => h) (Or.inl ⟨by rfl, fun W hW => by (try dsimp only at hW); go_simp⟩) (by assumption) ?_
    (try simp only [Act.put, List.setIfInBounds_toArray, List.set_cons_zero, List.set_cons_succ])
    refine held.take (i := 3) (v := .int .u8 y) rfl (by kernel_rfl) (by kernel_rfl) (by kernel_rfl) (fun _ _ _ h => h) (Or.inl ⟨by rfl, fun W hW => by (try dsimp only at hW); go_simp⟩) (by assumption) ?_
    (try simp only [Act.put, List.setIfInBounds_toArray, List.set_cons_zero, List.set_cons_succ])
    refine held.take (i := 5) (v := .pointer (some ⟨w.heap.size, 0, none⟩)) rfl (by kernel_rfl) (by kernel_rfl) (by kernel_rfl) (fun _ _ _ h => h) (Or.inl ⟨by rfl, fun W hW => by (try dsimp only at hW); go_simp⟩) (by assumption) ?_
    (try simp only [Act.put, List.setIfInBounds_toArray, List.set_cons_zero, List.set_cons_succ])
    refine held.take (i := 6) (v := .int .u8 x) rfl (by kernel_rfl) (by kernel_rfl) (by kernel_rfl) (fun _ _ _ h => h) (Or.inl ⟨by rfl, fun W hW => by (try dsimp only at hW); go_simp⟩) (by assumption) ?_
    (try simp only [Act.put, List.setIfInBounds_toArray, List.set_cons_zero, List.set_cons_succ])
    refine held.take (i := 7) (v := .pointer (some ⟨w.heap.size, 1, none⟩)) rfl (by kernel_rfl) (by kernel_rfl) (by kernel_rfl) (fun _ _ _ h => h) (Or.inl ⟨by rfl, fun W hW => by (try dsimp only at hW); go_simp⟩) (by assumption) ?_
    (try simp only [Act.put, List.setIfInBounds_toArray, List.set_cons_zero, List.set_cons_succ])
    refine held.take (i := 8) (v := .int .u8 y) rfl (by kernel_rfl) (by kernel_rfl) (by kernel_rfl) (fun _ _ _ h => h) (Or.inl ⟨by rfl, fun W hW => by (try dsimp only at hW); go_simp⟩) (by assumption) ?_
    (try simp only [Act.put, List.setIfInBounds_toArray, List.set_cons_zero, List.set_cons_succ])
    refine held.only (i := 4) (by kernel_rfl) rfl (fun K' hK' => ?_)
    go_simp
    go_at_call 18
    (with_reducible refine (CM.out _).mono ?_)
    rintro e v1 ⟨b1, rfl, hV1, hB1⟩
    have hM1 := more_trans hM0 hB1
    refine hK'.out _ _ (by (try dsimp only); exact SK.out _ hM1) (fun hHeld => ?_)
    clear hK' K'
    (try simp only [Act.put, List.setIfInBounds_toArray, List.set_cons_zero, List.set_cons_succ])
    refine held.only (i := 9) (by kernel_rfl) rfl (fun K' hK' => ?_)
    go_simp
    go_at_call 18
    (with_reducible refine (CM.out _).mono ?_)
    rintro e v2 ⟨b2, rfl, hV2, hB2⟩
    have hM2 := more_trans hM1 hB2
    refine hK'.out _ _ (by (try dsimp only); exact SK.out _ hM2) (fun hHeld => ?_)
    clear hK' K'
    (try simp only [Act.put, List.setIfInBounds_toArray, List.set_cons_zero, List.set_cons_succ])
    refine held.take (i := 10) (v := .pointer (some ⟨b1, 0, none⟩)) rfl (by kernel_rfl) (by kernel_rfl) (by kernel_rfl) (fun _ _ _ h => h) (Or.inl ⟨by rfl, fun W hW => by (try dsimp only at hW); go_simp⟩) (by assumption) ?_
    (try simp only [Act.put, List.setIfInBounds_toArray, List.set_cons_zero, List.set_cons_succ])
    refine held.take (i := 11) (v := .pointer (some ⟨b2, 0, none⟩)) rfl (by kernel_rfl) (by kernel_rfl) (by kernel_rfl) (fun _ _ _ h => h) (Or.inl ⟨by rfl, fun W hW => by (try dsimp only at hW); go_simp⟩) (by assumption) ?_
    (try simp only [Act.put, List.setIfInBounds_toArray, List.set_cons_zero, List.set_cons_succ])
    refine wpAnyH_done (by kernel_rfl) ?_ _
    refine NoPanic.normal ?_
    have HV1 := Lib.hid (hV1.below hB2 (Nat.le_refl _))
    have HV2 := Lib.hid hV2
    have HI : Hid (v1.heap.size ≤ v2.heap.size) := Lib.hid hB2.size
    have HLO : Hid (w.heap.size ≤ wb.drew.heap.size) := Lib.hid hbox.out.size
    have HLO2 : Hid (w.heap.size ≤ v1.heap.size) := Lib.hid (Nat.le_trans hbox.out.size hB1.size)
    have BB : Hid (Below w.heap.size w v2) := Lib.hid (hbox.out.trans ((Below.mono hM2 hbox.out.size)))
    clear hV1 hV2 hB1 hB2 hM0 hM1 hM2 SK HX hbox CM hHeld hd0
    generalize wb.drew.heap.size = lo1 at HV1 HLO
    obtain ⟨p1, hp1⟩ : ∃ p, p = v1.heap.size := ⟨_, rfl⟩
    obtain ⟨p2, hp2⟩ : ∃ p, p = v2.heap.size := ⟨_, rfl⟩
    rw [← hp1] at HV1 HV2 HLO2 HI
    rw [← hp2] at HV2
    clear hp1 hp2
    have CF := Lib.hid (feed_is lo1 p1 b1 (new n m) (B l) v2 (by rw [B_size, ← HL.out]; omega) HV1.out)
    rw [list_B, ← HS.out] at CF
    go_wp2_with fail
    go_at_call 14
    refine CF.out.mono ?_
    rintro e v3 ⟨rfl, hV, hT⟩
    have HV1 := Lib.hid hV
    have HV2 := Lib.hid (HV2.out.far hT (Or.inr (Nat.le_refl _)))
    have BB := Lib.hid (BB.out.trans (hT.below HLO.out BB.out.size))
    clear hV hT CF
    have CF := Lib.hid (feed_is p1 p2 b2 (new n m) (B (l.take K)) v3 (by rw [B_size]; exact Nat.le_trans HLT.out (by omega)) HV2.out)
    rw [list_B, ← HS1.out] at CF
    go_wp2_with fail
    go_at_call 14
    refine CF.out.mono ?_
    rintro e v4 ⟨rfl, hV, hT⟩
    have HV2 := Lib.hid hV
    have HV1 := Lib.hid (HV1.out.far hT (Or.inl (Nat.le_refl _)))
    have BB := Lib.hid (BB.out.trans (hT.below HLO2.out BB.out.size))
    clear hV hT CF
    have CG := Lib.hid (grid_is p1 p2 b2 s1 v4 HV2.out)
    go_wp2_with fail
    go_at_call 16
    refine CG.out.mono ?_
    rintro e v5 ⟨h5, rfl, hO, hB⟩
    have CK := Lib.hid (check_ok s1 OK1.out h5 v5 ((hO.rows OK1.out.few).mono (Nat.zero_le _) (Nat.le_refl _)))
    have HV1 := Lib.hid (HV1.out.below hB HV1.out.sz)
    have HV2 := Lib.hid (HV2.out.below hB HV2.out.sz)
    have BB := Lib.hid (BB.out.trans (hB.mono BB.out.size))
    clear hO hB CG
    go_wp2_with fail
    go_at_call 19
    refine CK.out.mono ?_
    rintro e v6 ⟨rfl, hB⟩
    have HV1 := Lib.hid (HV1.out.below hB HV1.out.sz)
    have HV2 := Lib.hid (HV2.out.below hB HV2.out.sz)
    have BB := Lib.hid (BB.out.trans (hB.mono BB.out.size))
    clear hB CK
    have CF := Lib.hid (feed_is p1 p2 b2 s1 (B (l.drop K)) v6 (by rw [B_size]; exact Nat.le_trans HLD.out (by omega)) HV2.out)
    rw [list_B, HS2.out] at CF
    go_wp2_with fail
    go_at_call 14
    refine CF.out.mono ?_
    rintro e v7 ⟨rfl, hV, hT⟩
    have HV2 := Lib.hid hV
    have HV1 := Lib.hid (HV1.out.far hT (Or.inl (Nat.le_refl _)))
    have BB := Lib.hid (BB.out.trans (hT.below HLO2.out BB.out.size))
    clear hV hT CF
    have CG := Lib.hid (grid_is lo1 p1 b1 s v7 HV1.out)
    go_wp2_with fail
    go_at_call 16
    refine CG.out.mono ?_
    rintro e v8 ⟨h8, rfl, hO, hB⟩
    have CK := Lib.hid (check_ok s OK.out h8 v8 ((hO.rows OK.out.few).mono (Nat.zero_le _) (Nat.le_refl _)))
    have HV1 := Lib.hid (HV1.out.below hB HV1.out.sz)
    have HV2 := Lib.hid (HV2.out.below hB HV2.out.sz)
    have BB := Lib.hid (BB.out.trans (hB.mono BB.out.size))
    clear hO hB CG
    go_wp2_with fail
    go_at_call 19
    refine CK.out.mono ?_
    rintro e v9 ⟨rfl, hB⟩
    have HV1 := Lib.hid (HV1.out.below hB HV1.out.sz)
    have HV2 := Lib.hid (HV2.out.below hB HV2.out.sz)
    have BB := Lib.hid (BB.out.trans (hB.mono BB.out.size))
    clear hB CK
    have CG := Lib.hid (grid_is lo1 p1 b1 s v9 HV1.out)
    go_wp2_with fail
    go_at_call 16
    refine CG.out.mono ?_
    rintro e u1 ⟨g1, rfl, hO, hB⟩
    have G1 := Lib.hid ((hO.rows OK.out.few).mono (Nat.zero_le _) (Nat.le_refl _))
    have HV2 := Lib.hid (HV2.out.below hB HV2.out.sz)
    have BB := Lib.hid (BB.out.trans (hB.mono BB.out.size))
    clear hO hB CG HV1
    have CG := Lib.hid (grid_is p1 p2 b2 s u1 HV2.out)
    go_wp2_with fail
    go_at_call 16
    refine CG.out.mono ?_
    rintro e u2 ⟨g2, rfl, hO, hB⟩
    have CS := Lib.hid (same_ok s g1 g2 u2 ((G1.out.below hB (Nat.le_refl _)).mono (Nat.le_refl _) hB.size) ((hO.rows OK.out.few).mono (Nat.zero_le _) (Nat.le_refl _)))
    have BB := Lib.hid (BB.out.trans (hB.mono BB.out.size))
    clear hO hB CG HV2 G1
    go_wp2_with fail
    go_at_call 20
    refine CS.out.mono ?_
    rintro e u3 ⟨rfl, hB⟩
    have BB := Lib.hid (BB.out.trans (hB.mono BB.out.size))
    clear hB CS
    go_wp2_with fail
    go_at_call 13
    refine (does_is _).mono ?_
    rintro e u4 ⟨rfl, hB⟩
    have FIN := Lib.hid (BB.out.trans (hB.mono BB.out.size))
    clear hB
    go_wp2
    go_ret
    exact ⟨rfl, FIN.out⟩
end Go.Proofs.Yteekihhngjbjgaa.vtt
