/- GridsTwo, walked. -/
import Derived.Test.YtaapoinggdempaaGrdTree
import Derived.Test.YtaapoinggdempaaGrdRefText
namespace Go.Proofs.Ytaapoinggdempaa.grd
open Go.RowKit Go.Lib
set_option linter.unusedVariables false
set_option linter.unusedSimpArgs false
set_option linter.unnecessarySimpa false
set_option linter.unusedSectionVars false

theorem below3 (w : World) (cs cs' cs'' : Array Value) (t t' t'' : TypeId) : Below w.heap.size w (((w.alloc (.cells cs t)).alloc (.cells cs' t')).alloc (.cells cs'' t'')) := (below2 w cs cs' t t').alloc (by simp; omega) _
theorem fresh3 {w w' : World} {X Y Z : Array Value} {T T' T'' : TypeId} (hB : Below (((w.alloc (.cells X T)).alloc (.cells Y T')).alloc (.cells Z T'')).heap.size (((w.alloc (.cells X T)).alloc (.cells Y T')).alloc (.cells Z T'')) w') :
    At w' w.heap.size T X ∧ At w' (w.heap.size + 1) T' Y ∧ At w' (w.heap.size + 2) T'' Z ∧ Below w.heap.size w w' ∧ w.heap.size + 3 ≤ w'.heap.size := by
  have hs0 : (((w.alloc (.cells X T)).alloc (.cells Y T')).alloc (.cells Z T'')).heap.size = w.heap.size + 3 := by simp
  have hs1 : (w.alloc (.cells X T)).heap.size = w.heap.size + 1 := by simp
  have hs2 : ((w.alloc (.cells X T)).alloc (.cells Y T')).heap.size = w.heap.size + 2 := by simp
  have hz := hB.size
  refine ⟨At.keep (((At.new w T X).alloc (.cells Y T')).alloc (.cells Z T'')) hB (by omega), ?_, ?_, (below3 w X Y Z T T' T'').trans (hB.mono (by omega)), by omega⟩
  · have := At.keep ((At.new (w.alloc (.cells X T)) T' Y).alloc (.cells Z T'')) hB (by omega)
    rwa [hs1] at this
  · have := At.keep (At.new ((w.alloc (.cells X T)).alloc (.cells Y T')) T'' Z) hB (by omega)
    rwa [hs2] at this
/-- The two cells' places are one. -/
def samePlace (ar ac br bc : Int) : Bool := decide (ar = br ∧ ac = bc)
set_option maxHeartbeats 8000000 in
set_option maxRecDepth 100000 in
theorem law7L (R C r k : Int) (A : Option Addr) (n c : Nat) (ls : List (List UInt8)) (ar ac br bc : Int) (ax bx : UInt8) (w : World) (h1 : Gr w 0 w.heap.size A n c ls) (ab bb : Int) (ha : ab = (ax.toNat : Int)) (hb : bb = (bx.toNat : Int)) :
    Calls Try.prog 7 #[.agg #[.int .i64 R, .int .i64 C, .slice A n c, .int .i64 r, .int .i64 k], .agg #[.int .i64 ar, .int .i64 ac, .int .u8 ab], .agg #[.int .i64 br, .int .i64 bc, .int .u8 bb]] w fun e w' => e = .returned (.bool true) ∧ Below w.heap.size w w' := by
  have H1 := Lib.hid h1
  have Ha := Lib.hid ha
  have Hb := Lib.hid hb
  clear h1 ha hb
  have B3 := Lib.hid (below3 w #[.int .i64 R, .int .i64 C, .slice A n c, .int .i64 r, .int .i64 k] #[.int .i64 ar, .int .i64 ac, .int .u8 ab] #[.int .i64 br, .int .i64 bc, .int .u8 bb] 24 42 42)
  go_enter Try.func7, Try.ntmps7
  go_wp2_with fail
  go_at_call 13
  refine (much_is R C r k A n c ls _ ((H1.out.below B3.out (Nat.le_refl _)).mono (Nat.le_refl _) B3.out.size)).mono ?_
  rintro e wb ⟨o1, rfl, F1, hB1⟩
  obtain ⟨e1, e2, e3, e4, e5⟩ := fresh3 hB1
  have EG := Lib.hid e1
  have EA := Lib.hid e2
  have EB := Lib.hid e3
  have EE := Lib.hid e4
  have ez := Lib.hid e5
  have FF := Lib.hid F1
  clear e1 e2 e3 e4 e5 hB1 F1
  cases o1
  · have HF := Lib.hid (FF.out rfl)
    clear FF
    by_cases hp : ar = br ∧ ac = bc
    · have t1 : (ar == br) = true := by simp [hp.1]
      have t2 : (ac == bc) = true := by simp [hp.2]
      clear hp
      obtain ⟨u0, u1, u2⟩ : wb.cell? ⟨w.heap.size + 1, 0, none⟩ = some (.int .i64 ar) ∧ wb.cell? ⟨w.heap.size + 1, 1, none⟩ = some (.int .i64 ac) ∧ wb.cell? ⟨w.heap.size + 1, 2, none⟩ = some (.int .u8 ab) := ⟨EA.out.cell 0, EA.out.cell 1, EA.out.cell 2⟩
      obtain ⟨y0, y1, y2⟩ : wb.cell? ⟨w.heap.size + 2, 0, none⟩ = some (.int .i64 br) ∧ wb.cell? ⟨w.heap.size + 2, 1, none⟩ = some (.int .i64 bc) ∧ wb.cell? ⟨w.heap.size + 2, 2, none⟩ = some (.int .u8 bb) := ⟨EB.out.cell 0, EB.out.cell 1, EB.out.cell 2⟩
      go_wp2_with fail
      go_at_call 12
      refine (does_is _).mono ?_
      rintro e wd ⟨rfl, hBd⟩
      have BF := Lib.hid (EE.out.trans (hBd.mono EE.out.size))
      clear hBd
      go_wp2
      go_ret
      exact ⟨rfl, BF.out⟩
    · have HNE := Lib.hid hp
      have GX : Hid (Gr wb 0 wb.heap.size A n c ls) := Lib.hid ((H1.out.below EE.out (Nat.le_refl _)).mono (Nat.le_refl _) EE.out.size)
      have SK : Hid (∀ W, More wb.heap.size wb W → (W.cell? ⟨w.heap.size, 0, none⟩ = some (.int .i64 R) ∧ W.cell? ⟨w.heap.size, 1, none⟩ = some (.int .i64 C) ∧ W.cell? ⟨w.heap.size, 2, none⟩ = some (.slice A n c) ∧ W.cell? ⟨w.heap.size, 3, none⟩ = some (.int .i64 r) ∧ W.cell? ⟨w.heap.size, 4, none⟩ = some (.int .i64 k)) ∧ (W.cell? ⟨w.heap.size + 1, 0, none⟩ = some (.int .i64 ar) ∧ W.cell? ⟨w.heap.size + 1, 1, none⟩ = some (.int .i64 ac) ∧ W.cell? ⟨w.heap.size + 1, 2, none⟩ = some (.int .u8 ab) ∧ W.cell? ⟨w.heap.size + 2, 0, none⟩ = some (.int .i64 br) ∧ W.cell? ⟨w.heap.size + 2, 1, none⟩ = some (.int .i64 bc) ∧ W.cell? ⟨w.heap.size + 2, 2, none⟩ = some (.int .u8 bb)) ∧ More wb.heap.size wb W) := Lib.hid fun W h => ⟨(EG.out.keep h EG.out.lt).five, ⟨(EA.out.keep h EA.out.lt).cell 0, (EA.out.keep h EA.out.lt).cell 1, (EA.out.keep h EA.out.lt).cell 2, (EB.out.keep h EB.out.lt).cell 0, (EB.out.keep h EB.out.lt).cell 1, (EB.out.keep h EB.out.lt).cell 2⟩, h⟩
      have P1 : Hid (∀ W, More wb.heap.size wb W → Calls Try.prog 16 #[.agg #[.int .i64 R, .int .i64 C, .slice A n c, .int .i64 r, .int .i64 k], .int .i64 ar, .int .i64 ac, .int .u8 ab] W fun e w' => ∃ h, e = .returned (.agg #[.int .i64 R, .int .i64 C, .slice (some ⟨h, 0, none⟩) n n, .int .i64 r, .int .i64 k]) ∧ Gr w' W.heap.size w'.heap.size (some ⟨h, 0, none⟩) n n (putC ⟨R, C, ls, r, k⟩ ar ac ax) ∧ Below W.heap.size W w') := Lib.hid fun W h => by
        rw [Ha.out]
        refine (put_is R C r k A n c ls ar ac ax W HF.out (gr_more GX.out h)).mono ?_
        rintro e w' ⟨h, rfl, hO, hB⟩
        exact ⟨h, rfl, hO.rows (few_put ⟨R, C, ls, r, k⟩ _ _ _ HF.out), hB⟩
      have P2 : Hid (∀ W h0, More wb.heap.size wb W → Gr W 0 W.heap.size (some ⟨h0, 0, none⟩) n n (putC ⟨R, C, ls, r, k⟩ ar ac ax) → Calls Try.prog 16 #[.agg #[.int .i64 R, .int .i64 C, .slice (some ⟨h0, 0, none⟩) n n, .int .i64 r, .int .i64 k], .int .i64 br, .int .i64 bc, .int .u8 bb] W fun e w' => ∃ h, e = .returned (.agg #[.int .i64 R, .int .i64 C, .slice (some ⟨h, 0, none⟩) n n, .int .i64 r, .int .i64 k]) ∧ Gr w' W.heap.size w'.heap.size (some ⟨h, 0, none⟩) n n (putC (putG ⟨R, C, ls, r, k⟩ ar ac ax) br bc bx) ∧ Below W.heap.size W w') := Lib.hid fun W h0 h hG => by
        rw [Hb.out]
        refine (put_is R C r k _ n n (putC ⟨R, C, ls, r, k⟩ ar ac ax) br bc bx W (few_put ⟨R, C, ls, r, k⟩ _ _ _ HF.out) hG).mono ?_
        rintro e w' ⟨h, rfl, hO, hB⟩
        exact ⟨h, rfl, hO.rows (few_put (putG ⟨R, C, ls, r, k⟩ ar ac ax) _ _ _ (few_put ⟨R, C, ls, r, k⟩ _ _ _ HF.out)), hB⟩
      have q : (ar == br) = false ∨ ((ar == br) = true ∧ (ac == bc) = false) := by
        by_cases e1 : ar = br
        · by_cases e2 : ac = bc
          · exact absurd ⟨e1, e2⟩ hp
          · exact .inr ⟨by simp [e1], by simp [e2]⟩
        · exact .inl (by simp [e1])
      clear hp
      obtain ⟨u0, u1, u2⟩ : wb.cell? ⟨w.heap.size + 1, 0, none⟩ = some (.int .i64 ar) ∧ wb.cell? ⟨w.heap.size + 1, 1, none⟩ = some (.int .i64 ac) ∧ wb.cell? ⟨w.heap.size + 1, 2, none⟩ = some (.int .u8 ab) := ⟨EA.out.cell 0, EA.out.cell 1, EA.out.cell 2⟩
      obtain ⟨y0, y1, y2⟩ : wb.cell? ⟨w.heap.size + 2, 0, none⟩ = some (.int .i64 br) ∧ wb.cell? ⟨w.heap.size + 2, 1, none⟩ = some (.int .i64 bc) ∧ wb.cell? ⟨w.heap.size + 2, 2, none⟩ = some (.int .u8 bb) := ⟨EB.out.cell 0, EB.out.cell 1, EB.out.cell 2⟩
      have TAIL : Hid True := Lib.hid trivial
      rcases q with t1 | ⟨t1, t2⟩
      all_goals
        go_wp2_with fail
        clear u0 u1 u2 y0 y1 y2
        go_cut [7] (fun s7 wx => ∃ b7 h7, s7 = .pointer (some ⟨b7, 0, none⟩) ∧ At wx b7 24 #[.int .i64 R, .int .i64 C, .slice (some ⟨h7, 0, none⟩) n n, .int .i64 r, .int .i64 k] ∧ Gr wx 0 wx.heap.size (some ⟨h7, 0, none⟩) n n (putC (putG ⟨R, C, ls, r, k⟩ ar ac ax) br bc bx) ∧ More wb.heap.size wb wx)
        case first =>
          refine wp_region_noPanic ?_
          refine wp_region_held_drew (S := (fun W => (W.cell? ⟨w.heap.size, 0, none⟩ = some (.int .i64 R) ∧ W.cell? ⟨w.heap.size, 1, none⟩ = some (.int .i64 C) ∧ W.cell? ⟨w.heap.size, 2, none⟩ = some (.slice A n c) ∧ W.cell? ⟨w.heap.size, 3, none⟩ = some (.int .i64 r) ∧ W.cell? ⟨w.heap.size, 4, none⟩ = some (.int .i64 k)) ∧ (W.cell? ⟨w.heap.size + 1, 0, none⟩ = some (.int .i64 ar) ∧ W.cell? ⟨w.heap.size + 1, 1, none⟩ = some (.int .i64 ac) ∧ W.cell? ⟨w.heap.size + 1, 2, none⟩ = some (.int .u8 ab) ∧ W.cell? ⟨w.heap.size + 2, 0, none⟩ = some (.int .i64 br) ∧ W.cell? ⟨w.heap.size + 2, 1, none⟩ = some (.int .i64 bc) ∧ W.cell? ⟨w.heap.size + 2, 2, none⟩ = some (.int .u8 bb)) ∧ More wb.heap.size wb W)) (by kernel_rfl) (by (try dsimp only); exact SK.out _ (more_drew (Below.refl _ _))) (fun hHeld => ?_)
          have hM0 : More wb.heap.size wb wb.drew := more_drew (Below.refl _ _)
          have hd0 : wb.heap.size ≤ wb.drew.heap.size := Nat.le_refl _
          have hd1 : wb.drew.heap.size ≤ wb.heap.size := Nat.le_refl _
          refine held.take (i := 0) (v := .agg #[.int .i64 R, .int .i64 C, .slice A n c, .int .i64 r, .int .i64 k]) rfl (by kernel_rfl) (by kernel_rfl) (by kernel_rfl) (fun _ _ _ h => h) (Or.inl ⟨by rfl, fun W hW => by (try dsimp only at hW); go_simp⟩) (by assumption) ?_
          (try simp only [Act.put, List.setIfInBounds_toArray, List.set_cons_zero, List.set_cons_succ])
          refine held.take (i := 1) (v := _) rfl (by kernel_rfl) (by kernel_rfl) (by kernel_rfl) (fun _ _ _ h => h) (Or.inl ⟨by rfl, fun _ _ => rfl⟩) (by assumption) ?_
          (try simp only [Act.put, List.setIfInBounds_toArray, List.set_cons_zero, List.set_cons_succ])
          refine held.take (i := 2) (v := .int .i64 ar) rfl (by kernel_rfl) (by kernel_rfl) (by kernel_rfl) (fun _ _ _ h => h) (Or.inl ⟨by rfl, fun W hW => by (try dsimp only at hW); go_simp⟩) (by assumption) ?_
          (try simp only [Act.put, List.setIfInBounds_toArray, List.set_cons_zero, List.set_cons_succ])
          refine held.take (i := 3) (v := _) rfl (by kernel_rfl) (by kernel_rfl) (by kernel_rfl) (fun _ _ _ h => h) (Or.inl ⟨by rfl, fun _ _ => rfl⟩) (by assumption) ?_
          (try simp only [Act.put, List.setIfInBounds_toArray, List.set_cons_zero, List.set_cons_succ])
          refine held.take (i := 4) (v := .int .i64 ac) rfl (by kernel_rfl) (by kernel_rfl) (by kernel_rfl) (fun _ _ _ h => h) (Or.inl ⟨by rfl, fun W hW => by (try dsimp only at hW); go_simp⟩) (by assumption) ?_
          (try simp only [Act.put, List.setIfInBounds_toArray, List.set_cons_zero, List.set_cons_succ])
          refine held.take (i := 5) (v := _) rfl (by kernel_rfl) (by kernel_rfl) (by kernel_rfl) (fun _ _ _ h => h) (Or.inl ⟨by rfl, fun _ _ => rfl⟩) (by assumption) ?_
          (try simp only [Act.put, List.setIfInBounds_toArray, List.set_cons_zero, List.set_cons_succ])
          refine held.take (i := 6) (v := .int .u8 ab) rfl (by kernel_rfl) (by kernel_rfl) (by kernel_rfl) (fun _ _ _ h => h) (Or.inl ⟨by rfl, fun W hW => by (try dsimp only at hW); go_simp⟩) (by assumption) ?_
          (try simp only [Act.put, List.setIfInBounds_toArray, List.set_cons_zero, List.set_cons_succ])
          refine held.take (i := 8) (v := _) rfl (by kernel_rfl) (by kernel_rfl) (by kernel_rfl) (fun _ _ _ h => h) (Or.inl ⟨by rfl, fun _ _ => rfl⟩) (by assumption) ?_
          (try simp only [Act.put, List.setIfInBounds_toArray, List.set_cons_zero, List.set_cons_succ])
          refine held.take (i := 9) (v := .int .i64 br) rfl (by kernel_rfl) (by kernel_rfl) (by kernel_rfl) (fun _ _ _ h => h) (Or.inl ⟨by rfl, fun W hW => by (try dsimp only at hW); go_simp⟩) (by assumption) ?_
          (try simp only [Act.put, List.setIfInBounds_toArray, List.set_cons_zero, List.set_cons_succ])
          refine held.take (i := 10) (v := _) rfl (by kernel_rfl) (by kernel_rfl) (by kernel_rfl) (fun _ _ _ h => h) (Or.inl ⟨by rfl, fun _ _ => rfl⟩) (by assumption) ?_
          (try simp only [Act.put, List.setIfInBounds_toArray, List.set_cons_zero, List.set_cons_succ])
          refine held.take (i := 11) (v := .int .i64 bc) rfl (by kernel_rfl) (by kernel_rfl) (by kernel_rfl) (fun _ _ _ h => h) (Or.inl ⟨by rfl, fun W hW => by (try dsimp only at hW); go_simp⟩) (by assumption) ?_
          (try simp only [Act.put, List.setIfInBounds_toArray, List.set_cons_zero, List.set_cons_succ])
          refine held.take (i := 12) (v := _) rfl (by kernel_rfl) (by kernel_rfl) (by kernel_rfl) (fun _ _ _ h => h) (Or.inl ⟨by rfl, fun _ _ => rfl⟩) (by assumption) ?_
          (try simp only [Act.put, List.setIfInBounds_toArray, List.set_cons_zero, List.set_cons_succ])
          refine held.take (i := 13) (v := .int .u8 bb) rfl (by kernel_rfl) (by kernel_rfl) (by kernel_rfl) (fun _ _ _ h => h) (Or.inl ⟨by rfl, fun W hW => by (try dsimp only at hW); go_simp⟩) (by assumption) ?_
          (try simp only [Act.put, List.setIfInBounds_toArray, List.set_cons_zero, List.set_cons_succ])
          refine held_two (i := 7) (j := 15) (by kernel_rfl) rfl rfl (fun K hK => ?_) (fun K hK => ?_)
          · skip
            go_simp
            go_at_call 16
            (with_reducible refine (P1.out _ hM0).mono ?_)
            rintro e v1 ⟨h1, rfl, hG1, hB⟩
            have hz1 := hB.size
            have hM1 := more_trans hM0 hB
            clear hB
            refine hK.out _ _ (by (try dsimp only); exact SK.out _ hM1) (fun hHeld => ?_)
            clear hK K
            (try simp only [Act.put, List.setIfInBounds_toArray, List.set_cons_zero, List.set_cons_succ])
            refine held_two (i := 14) (j := 15) (by kernel_rfl) rfl rfl (fun K hK => ?_) (fun K hK => ?_)
            · skip
              go_simp
              go_at_call 16
              (with_reducible refine (P2.out _ _ hM1 (hG1.mono (Nat.zero_le _) (by omega))).mono ?_)
              rintro e v2 ⟨h2, rfl, hG2, hB⟩
              have hz2 := hB.size
              have hM2 := more_trans hM1 hB
              have hG1 := hG1.below hB (by omega)
              clear hB
              refine hK.out _ _ (by (try dsimp only); exact SK.out _ hM2) (fun hHeld => ?_)
              clear hK K
              (try simp only [Act.put, List.setIfInBounds_toArray, List.set_cons_zero, List.set_cons_succ])
              refine held.only (i := 15) (by kernel_rfl) rfl (fun K hK => ?_)
              rw [if_pos (by rfl)]
              refine wp_allocG rfl ?_
              intro v3 hZ hB hz3
              have hM3 := more_trans hM2 hB
              have hG1 := hG1.below hB (by omega)
              have hG2 := hG2.below hB (by omega)
              have hZ_lt := hZ.lt
              clear hB
              refine hK.out _ _ (by (try dsimp only); exact SK.out _ hM3) (fun hHeld => ?_)
              clear hK K
              (try simp only [Act.put, List.setIfInBounds_toArray, List.set_cons_zero, List.set_cons_succ])
              refine held.only (i := 16) (by kernel_rfl) rfl (fun K hK => ?_)
              rw [if_pos (by rfl)]
              refine wp_storeG (.tmp 7) (.tmp 40) rfl _ R C r k (some ⟨h2, 0, none⟩) n n rfl rfl _ hZ rfl ?_
              intro v4 hZ' hU
              have hU4 := hU.size
              have hz4 : v3.heap.size ≤ v4.heap.size := by rw [hU4]; exact Nat.le_refl _
              have hz4' : v4.heap.size ≤ v3.heap.size := by rw [hU4]; exact Nat.le_refl _
              clear hU4
              have hM4 := more_but hM3 hU (by omega)
              have hG1 := hG1.but hU (by omega)
              have hG2 := hG2.but hU (by omega)
              have hZ'_lt := hZ'.lt
              clear hU
              refine hK.out _ _ (by (try dsimp only); exact SK.out _ hM4) (fun hHeld => ?_)
              clear hK K
              (try simp only [Act.put, List.setIfInBounds_toArray, List.set_cons_zero, List.set_cons_succ])
              refine wpAnyH_done (by kernel_rfl) ?_ _
              refine NoPanic.normal ?_
              go_wp2_with fail
              go_meet
              exact ⟨_, h2, rfl, hZ', hG2.mono (Nat.zero_le _) (by omega), hM4⟩
            · skip
              rw [if_pos (by rfl)]
              refine wp_allocG rfl ?_
              intro v2 hZ hB hz2
              have hM2 := more_trans hM1 hB
              have hG1 := hG1.below hB (by omega)
              have hZ_lt := hZ.lt
              clear hB
              refine hK.out _ _ (by (try dsimp only); exact SK.out _ hM2) (fun hHeld => ?_)
              clear hK K
              (try simp only [Act.put, List.setIfInBounds_toArray, List.set_cons_zero, List.set_cons_succ])
              refine held.only (i := 14) (by kernel_rfl) rfl (fun K hK => ?_)
              go_simp
              go_at_call 16
              (with_reducible refine (P2.out _ _ hM2 (hG1.mono (Nat.zero_le _) (by omega))).mono ?_)
              rintro e v3 ⟨h2, rfl, hG2, hB⟩
              have hz3 := hB.size
              have hM3 := more_trans hM2 hB
              have hG1 := hG1.below hB (by omega)
              have hZ := hZ.keep hB hZ.lt
              have hZ_lt := hZ.lt
              clear hB
              refine hK.out _ _ (by (try dsimp only); exact SK.out _ hM3) (fun hHeld => ?_)
              clear hK K
              (try simp only [Act.put, List.setIfInBounds_toArray, List.set_cons_zero, List.set_cons_succ])
              refine held.only (i := 16) (by kernel_rfl) rfl (fun K hK => ?_)
              rw [if_pos (by rfl)]
              refine wp_storeG (.tmp 7) (.tmp 40) rfl _ R C r k (some ⟨h2, 0, none⟩) n n rfl rfl _ hZ rfl ?_
              intro v4 hZ' hU
              have hU4 := hU.size
              have hz4 : v3.heap.size ≤ v4.heap.size := by rw [hU4]; exact Nat.le_refl _
              have hz4' : v4.heap.size ≤ v3.heap.size := by rw [hU4]; exact Nat.le_refl _
              clear hU4
              have hM4 := more_but hM3 hU (by omega)
              have hG1 := hG1.but hU (by omega)
              have hG2 := hG2.but hU (by omega)
              have hZ'_lt := hZ'.lt
              clear hU
              refine hK.out _ _ (by (try dsimp only); exact SK.out _ hM4) (fun hHeld => ?_)
              clear hK K
              (try simp only [Act.put, List.setIfInBounds_toArray, List.set_cons_zero, List.set_cons_succ])
              refine wpAnyH_done (by kernel_rfl) ?_ _
              refine NoPanic.normal ?_
              go_wp2_with fail
              go_meet
              exact ⟨_, h2, rfl, hZ', hG2.mono (Nat.zero_le _) (by omega), hM4⟩
          · skip
            rw [if_pos (by rfl)]
            refine wp_allocG rfl ?_
            intro v1 hZ hB hz1
            have hM1 := more_trans hM0 hB
            have hZ_lt := hZ.lt
            clear hB
            refine hK.out _ _ (by (try dsimp only); exact SK.out _ hM1) (fun hHeld => ?_)
            clear hK K
            (try simp only [Act.put, List.setIfInBounds_toArray, List.set_cons_zero, List.set_cons_succ])
            refine held.only (i := 7) (by kernel_rfl) rfl (fun K hK => ?_)
            go_simp
            go_at_call 16
            (with_reducible refine (P1.out _ hM1).mono ?_)
            rintro e v2 ⟨h1, rfl, hG1, hB⟩
            have hz2 := hB.size
            have hM2 := more_trans hM1 hB
            have hZ := hZ.keep hB hZ.lt
            have hZ_lt := hZ.lt
            clear hB
            refine hK.out _ _ (by (try dsimp only); exact SK.out _ hM2) (fun hHeld => ?_)
            clear hK K
            (try simp only [Act.put, List.setIfInBounds_toArray, List.set_cons_zero, List.set_cons_succ])
            refine held.only (i := 14) (by kernel_rfl) rfl (fun K hK => ?_)
            go_simp
            go_at_call 16
            (with_reducible refine (P2.out _ _ hM2 (hG1.mono (Nat.zero_le _) (by omega))).mono ?_)
            rintro e v3 ⟨h2, rfl, hG2, hB⟩
            have hz3 := hB.size
            have hM3 := more_trans hM2 hB
            have hZ := hZ.keep hB hZ.lt
            have hG1 := hG1.below hB (by omega)
            have hZ_lt := hZ.lt
            clear hB
            refine hK.out _ _ (by (try dsimp only); exact SK.out _ hM3) (fun hHeld => ?_)
            clear hK K
            (try simp only [Act.put, List.setIfInBounds_toArray, List.set_cons_zero, List.set_cons_succ])
            refine held.only (i := 16) (by kernel_rfl) rfl (fun K hK => ?_)
            rw [if_pos (by rfl)]
            refine wp_storeG (.tmp 7) (.tmp 40) rfl _ R C r k (some ⟨h2, 0, none⟩) n n rfl rfl _ hZ rfl ?_
            intro v4 hZ' hU
            have hU4 := hU.size
            have hz4 : v3.heap.size ≤ v4.heap.size := by rw [hU4]; exact Nat.le_refl _
            have hz4' : v4.heap.size ≤ v3.heap.size := by rw [hU4]; exact Nat.le_refl _
            clear hU4
            have hM4 := more_but hM3 hU (by omega)
            have hG1 := hG1.but hU (by omega)
            have hG2 := hG2.but hU (by omega)
            have hZ'_lt := hZ'.lt
            clear hU
            refine hK.out _ _ (by (try dsimp only); exact SK.out _ hM4) (fun hHeld => ?_)
            clear hK K
            (try simp only [Act.put, List.setIfInBounds_toArray, List.set_cons_zero, List.set_cons_succ])
            refine wpAnyH_done (by kernel_rfl) ?_ _
            refine NoPanic.normal ?_
            go_wp2_with fail
            go_meet
            exact ⟨_, h2, rfl, hZ', hG2.mono (Nat.zero_le _) (by omega), hM4⟩
        case rest =>
          obtain ⟨b7, h7, rfl, hA7, hG7, hM7⟩ := hcut
          obtain ⟨W1, hW1⟩ : ∃ W1, W1 = wc := ⟨_, rfl⟩
          subst hW1
          clear P1 P2 SK
          have EG := Lib.hid (EG.out.keep hM7 EG.out.lt)
          have EA := Lib.hid (EA.out.keep hM7 EA.out.lt)
          have EB := Lib.hid (EB.out.keep hM7 EB.out.lt)
          have GX := Lib.hid (gr_more GX.out hM7)
          have EE : Hid (Below w.heap.size w W1) := Lib.hid (EE.out.trans (Below.mono hM7 EE.out.size))
          have A7 := Lib.hid hA7
          have G7 := Lib.hid hG7
          clear hA7 hG7 hM7
          have SK : Hid (∀ W, More W1.heap.size W1 W → (W.cell? ⟨w.heap.size, 0, none⟩ = some (.int .i64 R) ∧ W.cell? ⟨w.heap.size, 1, none⟩ = some (.int .i64 C) ∧ W.cell? ⟨w.heap.size, 2, none⟩ = some (.slice A n c) ∧ W.cell? ⟨w.heap.size, 3, none⟩ = some (.int .i64 r) ∧ W.cell? ⟨w.heap.size, 4, none⟩ = some (.int .i64 k)) ∧ (W.cell? ⟨w.heap.size + 1, 0, none⟩ = some (.int .i64 ar) ∧ W.cell? ⟨w.heap.size + 1, 1, none⟩ = some (.int .i64 ac) ∧ W.cell? ⟨w.heap.size + 1, 2, none⟩ = some (.int .u8 ab) ∧ W.cell? ⟨w.heap.size + 2, 0, none⟩ = some (.int .i64 br) ∧ W.cell? ⟨w.heap.size + 2, 1, none⟩ = some (.int .i64 bc) ∧ W.cell? ⟨w.heap.size + 2, 2, none⟩ = some (.int .u8 bb)) ∧ More W1.heap.size W1 W) := Lib.hid fun W h => ⟨(EG.out.keep h EG.out.lt).five, ⟨(EA.out.keep h EA.out.lt).cell 0, (EA.out.keep h EA.out.lt).cell 1, (EA.out.keep h EA.out.lt).cell 2, (EB.out.keep h EB.out.lt).cell 0, (EB.out.keep h EB.out.lt).cell 1, (EB.out.keep h EB.out.lt).cell 2⟩, h⟩
          have P1 : Hid (∀ W, More W1.heap.size W1 W → Calls Try.prog 16 #[.agg #[.int .i64 R, .int .i64 C, .slice A n c, .int .i64 r, .int .i64 k], .int .i64 br, .int .i64 bc, .int .u8 bb] W fun e w' => ∃ h, e = .returned (.agg #[.int .i64 R, .int .i64 C, .slice (some ⟨h, 0, none⟩) n n, .int .i64 r, .int .i64 k]) ∧ Gr w' W.heap.size w'.heap.size (some ⟨h, 0, none⟩) n n (putC ⟨R, C, ls, r, k⟩ br bc bx) ∧ Below W.heap.size W w') := Lib.hid fun W h => by
            rw [Hb.out]
            refine (put_is R C r k A n c ls br bc bx W HF.out (gr_more GX.out h)).mono ?_
            rintro e w' ⟨h, rfl, hO, hB⟩
            exact ⟨h, rfl, hO.rows (few_put ⟨R, C, ls, r, k⟩ _ _ _ HF.out), hB⟩
          have P2 : Hid (∀ W h0, More W1.heap.size W1 W → Gr W 0 W.heap.size (some ⟨h0, 0, none⟩) n n (putC ⟨R, C, ls, r, k⟩ br bc bx) → Calls Try.prog 16 #[.agg #[.int .i64 R, .int .i64 C, .slice (some ⟨h0, 0, none⟩) n n, .int .i64 r, .int .i64 k], .int .i64 ar, .int .i64 ac, .int .u8 ab] W fun e w' => ∃ h, e = .returned (.agg #[.int .i64 R, .int .i64 C, .slice (some ⟨h, 0, none⟩) n n, .int .i64 r, .int .i64 k]) ∧ Gr w' W.heap.size w'.heap.size (some ⟨h, 0, none⟩) n n (putC (putG ⟨R, C, ls, r, k⟩ br bc bx) ar ac ax) ∧ Below W.heap.size W w') := Lib.hid fun W h0 h hG => by
            rw [Ha.out]
            refine (put_is R C r k _ n n (putC ⟨R, C, ls, r, k⟩ br bc bx) ar ac ax W (few_put ⟨R, C, ls, r, k⟩ _ _ _ HF.out) hG).mono ?_
            rintro e w' ⟨h, rfl, hO, hB⟩
            exact ⟨h, rfl, hO.rows (few_put (putG ⟨R, C, ls, r, k⟩ br bc bx) _ _ _ (few_put ⟨R, C, ls, r, k⟩ _ _ _ HF.out)), hB⟩

          go_wp2_with fail
          go_cut [8] (fun s8 wx => ∃ b7 h7, s8 = .pointer (some ⟨b7, 0, none⟩) ∧ At wx b7 24 #[.int .i64 R, .int .i64 C, .slice (some ⟨h7, 0, none⟩) n n, .int .i64 r, .int .i64 k] ∧ Gr wx 0 wx.heap.size (some ⟨h7, 0, none⟩) n n (putC (putG ⟨R, C, ls, r, k⟩ br bc bx) ar ac ax) ∧ More W1.heap.size W1 wx)
          case first =>
            refine wp_region_noPanic ?_
            refine wp_region_held_drew (S := (fun W => (W.cell? ⟨w.heap.size, 0, none⟩ = some (.int .i64 R) ∧ W.cell? ⟨w.heap.size, 1, none⟩ = some (.int .i64 C) ∧ W.cell? ⟨w.heap.size, 2, none⟩ = some (.slice A n c) ∧ W.cell? ⟨w.heap.size, 3, none⟩ = some (.int .i64 r) ∧ W.cell? ⟨w.heap.size, 4, none⟩ = some (.int .i64 k)) ∧ (W.cell? ⟨w.heap.size + 1, 0, none⟩ = some (.int .i64 ar) ∧ W.cell? ⟨w.heap.size + 1, 1, none⟩ = some (.int .i64 ac) ∧ W.cell? ⟨w.heap.size + 1, 2, none⟩ = some (.int .u8 ab) ∧ W.cell? ⟨w.heap.size + 2, 0, none⟩ = some (.int .i64 br) ∧ W.cell? ⟨w.heap.size + 2, 1, none⟩ = some (.int .i64 bc) ∧ W.cell? ⟨w.heap.size + 2, 2, none⟩ = some (.int .u8 bb)) ∧ More W1.heap.size W1 W)) (by kernel_rfl) (by (try dsimp only); exact SK.out _ (more_drew (Below.refl _ _))) (fun hHeld => ?_)
            have hM0 : More W1.heap.size W1 W1.drew := more_drew (Below.refl _ _)
            have hd0 : W1.heap.size ≤ W1.drew.heap.size := Nat.le_refl _
            have hd1 : W1.drew.heap.size ≤ W1.heap.size := Nat.le_refl _
            refine held.take (i := 0) (v := .agg #[.int .i64 R, .int .i64 C, .slice A n c, .int .i64 r, .int .i64 k]) rfl (by kernel_rfl) (by kernel_rfl) (by kernel_rfl) (fun _ _ _ h => h) (Or.inl ⟨by rfl, fun W hW => by (try dsimp only at hW); go_simp⟩) (by assumption) ?_
            (try simp only [Act.put, List.setIfInBounds_toArray, List.set_cons_zero, List.set_cons_succ])
            refine held.take (i := 1) (v := _) rfl (by kernel_rfl) (by kernel_rfl) (by kernel_rfl) (fun _ _ _ h => h) (Or.inl ⟨by rfl, fun _ _ => rfl⟩) (by assumption) ?_
            (try simp only [Act.put, List.setIfInBounds_toArray, List.set_cons_zero, List.set_cons_succ])
            refine held.take (i := 2) (v := .int .i64 br) rfl (by kernel_rfl) (by kernel_rfl) (by kernel_rfl) (fun _ _ _ h => h) (Or.inl ⟨by rfl, fun W hW => by (try dsimp only at hW); go_simp⟩) (by assumption) ?_
            (try simp only [Act.put, List.setIfInBounds_toArray, List.set_cons_zero, List.set_cons_succ])
            refine held.take (i := 3) (v := _) rfl (by kernel_rfl) (by kernel_rfl) (by kernel_rfl) (fun _ _ _ h => h) (Or.inl ⟨by rfl, fun _ _ => rfl⟩) (by assumption) ?_
            (try simp only [Act.put, List.setIfInBounds_toArray, List.set_cons_zero, List.set_cons_succ])
            refine held.take (i := 4) (v := .int .i64 bc) rfl (by kernel_rfl) (by kernel_rfl) (by kernel_rfl) (fun _ _ _ h => h) (Or.inl ⟨by rfl, fun W hW => by (try dsimp only at hW); go_simp⟩) (by assumption) ?_
            (try simp only [Act.put, List.setIfInBounds_toArray, List.set_cons_zero, List.set_cons_succ])
            refine held.take (i := 5) (v := _) rfl (by kernel_rfl) (by kernel_rfl) (by kernel_rfl) (fun _ _ _ h => h) (Or.inl ⟨by rfl, fun _ _ => rfl⟩) (by assumption) ?_
            (try simp only [Act.put, List.setIfInBounds_toArray, List.set_cons_zero, List.set_cons_succ])
            refine held.take (i := 6) (v := .int .u8 bb) rfl (by kernel_rfl) (by kernel_rfl) (by kernel_rfl) (fun _ _ _ h => h) (Or.inl ⟨by rfl, fun W hW => by (try dsimp only at hW); go_simp⟩) (by assumption) ?_
            (try simp only [Act.put, List.setIfInBounds_toArray, List.set_cons_zero, List.set_cons_succ])
            refine held.take (i := 8) (v := _) rfl (by kernel_rfl) (by kernel_rfl) (by kernel_rfl) (fun _ _ _ h => h) (Or.inl ⟨by rfl, fun _ _ => rfl⟩) (by assumption) ?_
            (try simp only [Act.put, List.setIfInBounds_toArray, List.set_cons_zero, List.set_cons_succ])
            refine held.take (i := 9) (v := .int .i64 ar) rfl (by kernel_rfl) (by kernel_rfl) (by kernel_rfl) (fun _ _ _ h => h) (Or.inl ⟨by rfl, fun W hW => by (try dsimp only at hW); go_simp⟩) (by assumption) ?_
            (try simp only [Act.put, List.setIfInBounds_toArray, List.set_cons_zero, List.set_cons_succ])
            refine held.take (i := 10) (v := _) rfl (by kernel_rfl) (by kernel_rfl) (by kernel_rfl) (fun _ _ _ h => h) (Or.inl ⟨by rfl, fun _ _ => rfl⟩) (by assumption) ?_
            (try simp only [Act.put, List.setIfInBounds_toArray, List.set_cons_zero, List.set_cons_succ])
            refine held.take (i := 11) (v := .int .i64 ac) rfl (by kernel_rfl) (by kernel_rfl) (by kernel_rfl) (fun _ _ _ h => h) (Or.inl ⟨by rfl, fun W hW => by (try dsimp only at hW); go_simp⟩) (by assumption) ?_
            (try simp only [Act.put, List.setIfInBounds_toArray, List.set_cons_zero, List.set_cons_succ])
            refine held.take (i := 12) (v := _) rfl (by kernel_rfl) (by kernel_rfl) (by kernel_rfl) (fun _ _ _ h => h) (Or.inl ⟨by rfl, fun _ _ => rfl⟩) (by assumption) ?_
            (try simp only [Act.put, List.setIfInBounds_toArray, List.set_cons_zero, List.set_cons_succ])
            refine held.take (i := 13) (v := .int .u8 ab) rfl (by kernel_rfl) (by kernel_rfl) (by kernel_rfl) (fun _ _ _ h => h) (Or.inl ⟨by rfl, fun W hW => by (try dsimp only at hW); go_simp⟩) (by assumption) ?_
            (try simp only [Act.put, List.setIfInBounds_toArray, List.set_cons_zero, List.set_cons_succ])
            refine held_two (i := 7) (j := 15) (by kernel_rfl) rfl rfl (fun K hK => ?_) (fun K hK => ?_)
            · skip
              go_simp
              go_at_call 16
              (with_reducible refine (P1.out _ hM0).mono ?_)
              rintro e v1 ⟨h1, rfl, hG1, hB⟩
              have hz1 := hB.size
              have hM1 := more_trans hM0 hB
              clear hB
              refine hK.out _ _ (by (try dsimp only); exact SK.out _ hM1) (fun hHeld => ?_)
              clear hK K
              (try simp only [Act.put, List.setIfInBounds_toArray, List.set_cons_zero, List.set_cons_succ])
              refine held_two (i := 14) (j := 15) (by kernel_rfl) rfl rfl (fun K hK => ?_) (fun K hK => ?_)
              · skip
                go_simp
                go_at_call 16
                (with_reducible refine (P2.out _ _ hM1 (hG1.mono (Nat.zero_le _) (by omega))).mono ?_)
                rintro e v2 ⟨h2, rfl, hG2, hB⟩
                have hz2 := hB.size
                have hM2 := more_trans hM1 hB
                have hG1 := hG1.below hB (by omega)
                clear hB
                refine hK.out _ _ (by (try dsimp only); exact SK.out _ hM2) (fun hHeld => ?_)
                clear hK K
                (try simp only [Act.put, List.setIfInBounds_toArray, List.set_cons_zero, List.set_cons_succ])
                refine held.only (i := 15) (by kernel_rfl) rfl (fun K hK => ?_)
                rw [if_pos (by rfl)]
                refine wp_allocG rfl ?_
                intro v3 hZ hB hz3
                have hM3 := more_trans hM2 hB
                have hG1 := hG1.below hB (by omega)
                have hG2 := hG2.below hB (by omega)
                have hZ_lt := hZ.lt
                clear hB
                refine hK.out _ _ (by (try dsimp only); exact SK.out _ hM3) (fun hHeld => ?_)
                clear hK K
                (try simp only [Act.put, List.setIfInBounds_toArray, List.set_cons_zero, List.set_cons_succ])
                refine held.only (i := 16) (by kernel_rfl) rfl (fun K hK => ?_)
                rw [if_pos (by rfl)]
                refine wp_storeG (.tmp 8) (.tmp 55) rfl _ R C r k (some ⟨h2, 0, none⟩) n n rfl rfl _ hZ rfl ?_
                intro v4 hZ' hU
                have hU4 := hU.size
                have hz4 : v3.heap.size ≤ v4.heap.size := by rw [hU4]; exact Nat.le_refl _
                have hz4' : v4.heap.size ≤ v3.heap.size := by rw [hU4]; exact Nat.le_refl _
                clear hU4
                have hM4 := more_but hM3 hU (by omega)
                have hG1 := hG1.but hU (by omega)
                have hG2 := hG2.but hU (by omega)
                have hZ'_lt := hZ'.lt
                clear hU
                refine hK.out _ _ (by (try dsimp only); exact SK.out _ hM4) (fun hHeld => ?_)
                clear hK K
                (try simp only [Act.put, List.setIfInBounds_toArray, List.set_cons_zero, List.set_cons_succ])
                refine wpAnyH_done (by kernel_rfl) ?_ _
                refine NoPanic.normal ?_
                go_wp2_with fail
                go_meet
                exact ⟨_, h2, rfl, hZ', hG2.mono (Nat.zero_le _) (by omega), hM4⟩
              · skip
                rw [if_pos (by rfl)]
                refine wp_allocG rfl ?_
                intro v2 hZ hB hz2
                have hM2 := more_trans hM1 hB
                have hG1 := hG1.below hB (by omega)
                have hZ_lt := hZ.lt
                clear hB
                refine hK.out _ _ (by (try dsimp only); exact SK.out _ hM2) (fun hHeld => ?_)
                clear hK K
                (try simp only [Act.put, List.setIfInBounds_toArray, List.set_cons_zero, List.set_cons_succ])
                refine held.only (i := 14) (by kernel_rfl) rfl (fun K hK => ?_)
                go_simp
                go_at_call 16
                (with_reducible refine (P2.out _ _ hM2 (hG1.mono (Nat.zero_le _) (by omega))).mono ?_)
                rintro e v3 ⟨h2, rfl, hG2, hB⟩
                have hz3 := hB.size
                have hM3 := more_trans hM2 hB
                have hG1 := hG1.below hB (by omega)
                have hZ := hZ.keep hB hZ.lt
                have hZ_lt := hZ.lt
                clear hB
                refine hK.out _ _ (by (try dsimp only); exact SK.out _ hM3) (fun hHeld => ?_)
                clear hK K
                (try simp only [Act.put, List.setIfInBounds_toArray, List.set_cons_zero, List.set_cons_succ])
                refine held.only (i := 16) (by kernel_rfl) rfl (fun K hK => ?_)
                rw [if_pos (by rfl)]
                refine wp_storeG (.tmp 8) (.tmp 55) rfl _ R C r k (some ⟨h2, 0, none⟩) n n rfl rfl _ hZ rfl ?_
                intro v4 hZ' hU
                have hU4 := hU.size
                have hz4 : v3.heap.size ≤ v4.heap.size := by rw [hU4]; exact Nat.le_refl _
                have hz4' : v4.heap.size ≤ v3.heap.size := by rw [hU4]; exact Nat.le_refl _
                clear hU4
                have hM4 := more_but hM3 hU (by omega)
                have hG1 := hG1.but hU (by omega)
                have hG2 := hG2.but hU (by omega)
                have hZ'_lt := hZ'.lt
                clear hU
                refine hK.out _ _ (by (try dsimp only); exact SK.out _ hM4) (fun hHeld => ?_)
                clear hK K
                (try simp only [Act.put, List.setIfInBounds_toArray, List.set_cons_zero, List.set_cons_succ])
                refine wpAnyH_done (by kernel_rfl) ?_ _
                refine NoPanic.normal ?_
                go_wp2_with fail
                go_meet
                exact ⟨_, h2, rfl, hZ', hG2.mono (Nat.zero_le _) (by omega), hM4⟩
            · skip
              rw [if_pos (by rfl)]
              refine wp_allocG rfl ?_
              intro v1 hZ hB hz1
              have hM1 := more_trans hM0 hB
              have hZ_lt := hZ.lt
              clear hB
              refine hK.out _ _ (by (try dsimp only); exact SK.out _ hM1) (fun hHeld => ?_)
              clear hK K
              (try simp only [Act.put, List.setIfInBounds_toArray, List.set_cons_zero, List.set_cons_succ])
              refine held.only (i := 7) (by kernel_rfl) rfl (fun K hK => ?_)
              go_simp
              go_at_call 16
              (with_reducible refine (P1.out _ hM1).mono ?_)
              rintro e v2 ⟨h1, rfl, hG1, hB⟩
              have hz2 := hB.size
              have hM2 := more_trans hM1 hB
              have hZ := hZ.keep hB hZ.lt
              have hZ_lt := hZ.lt
              clear hB
              refine hK.out _ _ (by (try dsimp only); exact SK.out _ hM2) (fun hHeld => ?_)
              clear hK K
              (try simp only [Act.put, List.setIfInBounds_toArray, List.set_cons_zero, List.set_cons_succ])
              refine held.only (i := 14) (by kernel_rfl) rfl (fun K hK => ?_)
              go_simp
              go_at_call 16
              (with_reducible refine (P2.out _ _ hM2 (hG1.mono (Nat.zero_le _) (by omega))).mono ?_)
              rintro e v3 ⟨h2, rfl, hG2, hB⟩
              have hz3 := hB.size
              have hM3 := more_trans hM2 hB
              have hZ := hZ.keep hB hZ.lt
              have hG1 := hG1.below hB (by omega)
              have hZ_lt := hZ.lt
              clear hB
              refine hK.out _ _ (by (try dsimp only); exact SK.out _ hM3) (fun hHeld => ?_)
              clear hK K
              (try simp only [Act.put, List.setIfInBounds_toArray, List.set_cons_zero, List.set_cons_succ])
              refine held.only (i := 16) (by kernel_rfl) rfl (fun K hK => ?_)
              rw [if_pos (by rfl)]
              refine wp_storeG (.tmp 8) (.tmp 55) rfl _ R C r k (some ⟨h2, 0, none⟩) n n rfl rfl _ hZ rfl ?_
              intro v4 hZ' hU
              have hU4 := hU.size
              have hz4 : v3.heap.size ≤ v4.heap.size := by rw [hU4]; exact Nat.le_refl _
              have hz4' : v4.heap.size ≤ v3.heap.size := by rw [hU4]; exact Nat.le_refl _
              clear hU4
              have hM4 := more_but hM3 hU (by omega)
              have hG1 := hG1.but hU (by omega)
              have hG2 := hG2.but hU (by omega)
              have hZ'_lt := hZ'.lt
              clear hU
              refine hK.out _ _ (by (try dsimp only); exact SK.out _ hM4) (fun hHeld => ?_)
              clear hK K
              (try simp only [Act.put, List.setIfInBounds_toArray, List.set_cons_zero, List.set_cons_succ])
              refine wpAnyH_done (by kernel_rfl) ?_ _
              refine NoPanic.normal ?_
              go_wp2_with fail
              go_meet
              exact ⟨_, h2, rfl, hZ', hG2.mono (Nat.zero_le _) (by omega), hM4⟩
          case rest =>
            obtain ⟨b8, h8, rfl, hA8, hG8, hM8⟩ := hcut
            clear P1 P2 SK
            have EG := Lib.hid (EG.out.keep hM8 EG.out.lt)
            have GX := Lib.hid (gr_more GX.out hM8)
            have EE : Hid (Below w.heap.size w wc) := Lib.hid (EE.out.trans (Below.mono hM8 EE.out.size))
            have A7 := Lib.hid (A7.out.keep hM8 A7.out.lt)
            have G7 := Lib.hid (gr_more G7.out hM8)
            have A8 := Lib.hid hA8
            have G8 := Lib.hid hG8
            clear hA8 hG8 hM8
            obtain ⟨o, ho⟩ : ∃ o, may ⟨R, C, ls, r, k⟩ = o := ⟨_, rfl⟩
            have SK : Hid (∀ W, More wc.heap.size wc W → (W.cell? ⟨b7, 0, none⟩ = some (.int .i64 R) ∧ W.cell? ⟨b7, 1, none⟩ = some (.int .i64 C) ∧ W.cell? ⟨b7, 2, none⟩ = some (.slice (some ⟨h7, 0, none⟩) n n) ∧ W.cell? ⟨b7, 3, none⟩ = some (.int .i64 r) ∧ W.cell? ⟨b7, 4, none⟩ = some (.int .i64 k)) ∧ ((W.cell? ⟨b8, 0, none⟩ = some (.int .i64 R) ∧ W.cell? ⟨b8, 1, none⟩ = some (.int .i64 C) ∧ W.cell? ⟨b8, 2, none⟩ = some (.slice (some ⟨h8, 0, none⟩) n n) ∧ W.cell? ⟨b8, 3, none⟩ = some (.int .i64 r) ∧ W.cell? ⟨b8, 4, none⟩ = some (.int .i64 k)) ∧ (W.cell? ⟨w.heap.size, 0, none⟩ = some (.int .i64 R) ∧ W.cell? ⟨w.heap.size, 1, none⟩ = some (.int .i64 C) ∧ W.cell? ⟨w.heap.size, 2, none⟩ = some (.slice A n c) ∧ W.cell? ⟨w.heap.size, 3, none⟩ = some (.int .i64 r) ∧ W.cell? ⟨w.heap.size, 4, none⟩ = some (.int .i64 k))) ∧ More wc.heap.size wc W) := Lib.hid fun W h => ⟨(A7.out.keep h A7.out.lt).five, ⟨(A8.out.keep h A8.out.lt).five, (EG.out.keep h EG.out.lt).five⟩, h⟩
            have Q1 : Hid (∀ W, More wc.heap.size wc W → Calls Try.prog 23 #[.agg #[.int .i64 R, .int .i64 C, .slice (some ⟨h7, 0, none⟩) n n, .int .i64 r, .int .i64 k], .agg #[.int .i64 R, .int .i64 C, .slice (some ⟨h8, 0, none⟩) n n, .int .i64 r, .int .i64 k]] W fun e w' => e = .returned (.bool true) ∧ Below W.heap.size W w') := Lib.hid fun W h => same_is _ _ _ _ _ _ _ _ _ _ _ _ _ _ _ _ true (sameB_self _ _ _ _ _ _ (put_comm ⟨R, C, ls, r, k⟩ ar ac br bc ax bx HNE.out)) W (gr_more G7.out h) (gr_more G8.out h)
            have Q2 : Hid (∀ W, More wc.heap.size wc W → Calls Try.prog 17 #[.agg #[.int .i64 R, .int .i64 C, .slice (some ⟨h7, 0, none⟩) n n, .int .i64 r, .int .i64 k]] W fun e w' => e = .returned (.int .i64 (errI o)) ∧ Below W.heap.size W w') := Lib.hid fun W h => check_is R C r k _ n n (putC (putG ⟨R, C, ls, r, k⟩ ar ac ax) br bc bx) o (((may_put (putG ⟨R, C, ls, r, k⟩ ar ac ax) br bc bx).trans (may_put ⟨R, C, ls, r, k⟩ ar ac ax)).trans ho) W (few_put (putG ⟨R, C, ls, r, k⟩ ar ac ax) _ _ _ (few_put ⟨R, C, ls, r, k⟩ _ _ _ HF.out)) (gr_more G7.out h)
            have Q3 : Hid (∀ W, More wc.heap.size wc W → Calls Try.prog 17 #[.agg #[.int .i64 R, .int .i64 C, .slice A n c, .int .i64 r, .int .i64 k]] W fun e w' => e = .returned (.int .i64 (errI o)) ∧ Below W.heap.size W w') := Lib.hid fun W h => check_is R C r k _ n c ls o ho W HF.out (gr_more GX.out h)
            have M0 : More wc.heap.size wc wc := Below.refl _ _
            have S0 := SK.out wc M0
            have S0' := SK.out wc.drew (more_drew M0)
            clear GX G7 G8 A7 A8 EG EA EB ho H1 Ha Hb HNE HF
            have er1 : errI true = 0 := rfl
            have er2 : errI false = 2 := rfl
            cases o
            all_goals
              first | rw [er1] at Q2 Q3 | rw [er2] at Q2 Q3
              clear er1 er2
              go_wp2_with fail
              go_region_held3 (fun W => (W.cell? ⟨b7, 0, none⟩ = some (.int .i64 R) ∧ W.cell? ⟨b7, 1, none⟩ = some (.int .i64 C) ∧ W.cell? ⟨b7, 2, none⟩ = some (.slice (some ⟨h7, 0, none⟩) n n) ∧ W.cell? ⟨b7, 3, none⟩ = some (.int .i64 r) ∧ W.cell? ⟨b7, 4, none⟩ = some (.int .i64 k)) ∧ ((W.cell? ⟨b8, 0, none⟩ = some (.int .i64 R) ∧ W.cell? ⟨b8, 1, none⟩ = some (.int .i64 C) ∧ W.cell? ⟨b8, 2, none⟩ = some (.slice (some ⟨h8, 0, none⟩) n n) ∧ W.cell? ⟨b8, 3, none⟩ = some (.int .i64 r) ∧ W.cell? ⟨b8, 4, none⟩ = some (.int .i64 k)) ∧ (W.cell? ⟨w.heap.size, 0, none⟩ = some (.int .i64 R) ∧ W.cell? ⟨w.heap.size, 1, none⟩ = some (.int .i64 C) ∧ W.cell? ⟨w.heap.size, 2, none⟩ = some (.slice A n c) ∧ W.cell? ⟨w.heap.size, 3, none⟩ = some (.int .i64 r) ∧ W.cell? ⟨w.heap.size, 4, none⟩ = some (.int .i64 k))) ∧ More wc.heap.size wc W)
                (first | assumption | exact SK.out _ (by assumption))
                (first
                  | (go_at_call 23; (with_reducible refine (Q1.out _ (and_more (by assumption))).mono ?_); rintro e w' ⟨rfl, hBt⟩; have hM := more_trans (and_more (by assumption)) hBt)
                  | (go_at_call 17; (with_reducible refine (Q2.out _ (and_more (by assumption))).mono ?_); rintro e w' ⟨rfl, hBt⟩; have hM := more_trans (and_more (by assumption)) hBt)
                  | (go_at_call 17; (with_reducible refine (Q3.out _ (and_more (by assumption))).mono ?_); rintro e w' ⟨rfl, hBt⟩; have hM := more_trans (and_more (by assumption)) hBt)
                  | (go_at_call 12; (with_reducible refine (does_is _).mono ?_); rintro e w' ⟨rfl, hBt⟩; have hM := more_trans (and_more (by assumption)) hBt)
                  | fail "NONE")
              all_goals
                have hfin := and_more (by assumption)
                go_wp2
                go_ret
                exact ⟨rfl, EE.out.trans (Below.mono hfin EE.out.size)⟩
  · go_wp2_with fail
    go_at_call 12
    refine (does_is _).mono ?_
    rintro e wd ⟨rfl, hBd⟩
    have BF := Lib.hid (EE.out.trans (hBd.mono EE.out.size))
    clear hBd
    go_wp2
    go_ret
    exact ⟨rfl, BF.out⟩
end Go.Proofs.Ytaapoinggdempaa.grd
