/- Splices: the document's Inverse. -/
import Derived.Test.YtakckmelojobkaaDoorSplRef
namespace Go.Proofs.YtakckmelojobkaaDoor.sps
open Go.RowKit Go.Lib pce
set_option linter.unusedVariables false
set_option linter.unusedSimpArgs false
set_option linter.unnecessarySimpa false
set_option linter.unusedSectionVars false

theorem Made.grown {w W W' : World} {v : Array Value} {x : Value} {n e : Nat} {xs : List Value} (h : Made w v W) (hg : W.grownBy W' x.ownBlock) (ho : W.ownsRow (w.heap.size + 2) e 1 x n xs) : Made w v W' := by
  obtain ⟨hM, h0, x0, x1, x2, hA⟩ := h
  have hb : ∀ j, x.ownBlock = some j → w.heap.size + 2 ≤ j := fun j hj => (ho.lt j hj).1
  have hB : Below (w.heap.size + 2) W W' := (Below.refl (w.heap.size + 2) W).grown hg (by have := hA.lt; omega) hb
  have hlt := hA.lt
  exact ⟨Below.trans hM (hB.mono (by omega)), h0.same (hB.block _ (by omega)), x0, x1, x2, hA.same (hB.block _ (by omega))⟩
set_option maxHeartbeats 4000000 in
set_option maxRecDepth 100000 in
theorem refInverse_is (F : Nat → Prop) (A : Option Addr) (n c : Nat) (L : List ByteArray) (a d : Int) (B : Option Addr) (m c' : Nat) (ins : List ByteArray) (w : World) (k : Int) (hk : appK L a d ins = k) (hL : Lst w F A n c L) (hn : n ≤ 100000) (ha1 : -9223372036854775808 ≤ a) (ha2 : a ≤ 9223372036854775807) (hd1 : -9223372036854775808 ≤ d) (hd2 : d ≤ 9223372036854775807)
    (hI : Lst w F B m c' ins) (hm : m ≤ 10000) (hzL : ∀ z ∈ L, z.size ≤ maxLen) (hzI : ∀ z ∈ ins, z.size ≤ maxLen) :
    Calls Tryd.prog 15 #[.slice A n c, .agg #[.int .i64 a, .int .i64 d, .slice B m c']] w (InvSays w L a d m k) := by
  have hB0 : Below w.heap.size w ((w.alloc (.cells #[.int .i64 a, .int .i64 d, .slice B m c'] 24)).alloc (.cells #[.int .i64 0, .int .i64 0, .slice none 0 0] 24)) := ((Below.refl _ _).alloc (Nat.le_refl _) _).alloc (by simp) _
  have hA := (At.new w 24 #[.int .i64 a, .int .i64 d, .slice B m c']).alloc (.cells #[.int .i64 0, .int .i64 0, .slice none 0 0] 24)
  have hR := At.new (w.alloc (.cells #[.int .i64 a, .int .i64 d, .slice B m c'] 24)) 24 #[.int .i64 0, .int .i64 0, .slice none 0 0]
  rw [World.size_alloc] at hR
  have hzz : ((w.alloc (.cells #[.int .i64 a, .int .i64 d, .slice B m c'] 24)).alloc (.cells #[.int .i64 0, .int .i64 0, .slice none 0 0] 24)).heap.size = w.heap.size + 2 := by simp
  have C := Lib.hid (refApply_is F A n c L a d B m c' ins _ k hk (hL.below hB0) hn ha1 ha2 hd1 hd2 (hI.below hB0) hm hzL hzI)
  have HB0 := Lib.hid hB0
  have HA := Lib.hid hA
  have HR := Lib.hid hR
  have HZ := Lib.hid hzz
  have HL := Lib.hid hL
  have HI := Lib.hid hI
  have HK := Lib.hid hk
  clear hk hL hI hB0 hA hR hzz
  by_cases hk0 : k = 0
  · subst hk0
    obtain ⟨hfi, hst⟩ := appK_zero.1 HK.out
    obtain ⟨e1, e2, e3, e4, e5⟩ := stpE_zero.1 hst
    rw [← HL.out.len] at e3
    obtain ⟨x, rfl⟩ : ∃ x : Nat, a = x := ⟨a.toNat, by omega⟩
    obtain ⟨y, rfl⟩ : ∃ y : Nat, d = y := ⟨d.toNat, by omega⟩
    have hxy : x + y ≤ n := by omega
    have hn2 : n ≤ 2000 := by rw [HL.out.len]; exact hfi.1
    clear e1 e2 e3 e4 e5 ha1 ha2 hd1 hd2 hfi hst
    go_enter Tryd.func15, Tryd.ntmps15
    go_wp2_with fail
    go_at_call 13
    refine C.out.mono ?_
    rintro e w1 hE
    obtain ⟨B1, k1, cc1, rfl, _, _, _, _, _, _, hB1⟩ := hE.yes
    clear hE
    have HB := Lib.hid (HB0.out.trans (hB1.mono (by rw [HZ.out]; omega)))
    have hz1 : w.heap.size + 2 ≤ w1.heap.size := by have := hB1.size; rw [HZ.out] at this; exact this
    have hA1 := HA.out.same (hB1.block _ (by rw [HZ.out]; omega))
    have hR1 := HR.out.same (hB1.block _ (by rw [HZ.out]; omega))
    obtain ⟨c0, c1, c2⟩ := three_at hA1
    have S1 := fun W => mid_slice A n c x y (by have := HL.out.room; omega) W
    have hw : IntKind.i64.wrap ((x : Int) + y) = (x : Int) + y := by rw [IntKind.wrap_i64]; omega
    have D1 : Made w #[.int .i64 (x : Int), .int .i64 (y : Int), .slice B m c'] w1 := ⟨HB.out, hA1, _, _, _, hR1⟩
    have D1' := D1.drew
    have SK : Hid (∀ W, Made w #[.int .i64 (x : Int), .int .i64 (y : Int), .slice B m c'] W → W.cell? ⟨w.heap.size, 0, none⟩ = some (.int .i64 (x : Int)) ∧ W.cell? ⟨w.heap.size, 1, none⟩ = some (.int .i64 (y : Int)) ∧ W.cell? ⟨w.heap.size, 2, none⟩ = some (.slice B m c') ∧ Made w #[.int .i64 (x : Int), .int .i64 (y : Int), .slice B m c'] W) := Lib.hid (fun W hW => ⟨hW.2.1.cell 0, hW.2.1.cell 1, hW.2.1.cell 2, hW⟩)
    have T1 := SK.out _ D1
    have T1' := SK.out _ D1'
    have HO0 := Lib.hid (World.ownsRow_lit (base := w.heap.size + 2) (e := 9) (size := 1) w1.drew #[] 0 hz1 (Nat.zero_le _) rfl)
    have HM := Lib.hid (fun (W : World) (hW : More w.heap.size w W) => lst_mid (HL.out.below hW) x y (by omega))
    clear hB1 HA HB0 C hA1 hR1 HR
    go_wp2_with fail
    refine wp_region_noPanic ?_
    refine wp_region_held_drew (S := fun W => W.cell? ⟨w.heap.size, 0, none⟩ = some (.int .i64 (x : Int)) ∧ W.cell? ⟨w.heap.size, 1, none⟩ = some (.int .i64 (y : Int)) ∧ W.cell? ⟨w.heap.size, 2, none⟩ = some (.slice B m c') ∧ Made w #[.int .i64 (x : Int), .int .i64 (y : Int), .slice B m c'] W) (by kernel_rfl) (by (try dsimp only); first | assumption | exact ⟨by assumption, by assumption, by assumption, by assumption⟩) (fun hHeld => ?_)
    refine held.take (i := 0) (v := .pointer (some ⟨w.heap.size, 0, none⟩)) rfl (by kernel_rfl) (by kernel_rfl) (by kernel_rfl) (fun _ _ _ h => h) (Or.inl ⟨by rfl, fun W hW => by (try dsimp only at hW); go_simp⟩) (by assumption) ?_
    (try simp only [Act.put, List.setIfInBounds_toArray, List.set_cons_zero, List.set_cons_succ])
    refine held.take (i := 1) (v := .int .i64 (x : Int)) rfl (by kernel_rfl) (by kernel_rfl) (by kernel_rfl) (fun _ _ _ h => h) (Or.inl ⟨by rfl, fun W hW => by (try dsimp only at hW); go_simp⟩) (by assumption) ?_
    (try simp only [Act.put, List.setIfInBounds_toArray, List.set_cons_zero, List.set_cons_succ])
    refine held.take (i := 2) (v := .pointer (some ⟨w.heap.size, 2, none⟩)) rfl (by kernel_rfl) (by kernel_rfl) (by kernel_rfl) (fun _ _ _ h => h) (Or.inl ⟨by rfl, fun W hW => by (try dsimp only at hW); go_simp⟩) (by assumption) ?_
    (try simp only [Act.put, List.setIfInBounds_toArray, List.set_cons_zero, List.set_cons_succ])
    refine held.take (i := 3) (v := .slice B m c') rfl (by kernel_rfl) (by kernel_rfl) (by kernel_rfl) (fun _ _ _ h => h) (Or.inl ⟨by rfl, fun W hW => by (try dsimp only at hW); go_simp⟩) (by assumption) ?_
    (try simp only [Act.put, List.setIfInBounds_toArray, List.set_cons_zero, List.set_cons_succ])
    refine held.take (i := 4) (v := .int .i64 (m : Int)) rfl (by kernel_rfl) (by kernel_rfl) (by kernel_rfl) (fun _ _ _ h => h) (Or.inl ⟨by rfl, fun W hW => by (try dsimp only at hW); go_simp⟩) (by assumption) ?_
    (try simp only [Act.put, List.setIfInBounds_toArray, List.set_cons_zero, List.set_cons_succ])
    refine held.take (i := 6) (v := _) rfl (by kernel_rfl) (by kernel_rfl) (by kernel_rfl) (fun _ _ _ h => h) (Or.inl ⟨by rfl, fun _ _ => rfl⟩) (by assumption) ?_
    (try simp only [Act.put, List.setIfInBounds_toArray, List.set_cons_zero, List.set_cons_succ])
    refine held.take (i := 7) (v := .pointer (some ⟨w.heap.size, 0, none⟩)) rfl (by kernel_rfl) (by kernel_rfl) (by kernel_rfl) (fun _ _ _ h => h) (Or.inl ⟨by rfl, fun W hW => by (try dsimp only at hW); go_simp⟩) (by assumption) ?_
    (try simp only [Act.put, List.setIfInBounds_toArray, List.set_cons_zero, List.set_cons_succ])
    refine held.take (i := 8) (v := .int .i64 (x : Int)) rfl (by kernel_rfl) (by kernel_rfl) (by kernel_rfl) (fun _ _ _ h => h) (Or.inl ⟨by rfl, fun W hW => by (try dsimp only at hW); go_simp⟩) (by assumption) ?_
    (try simp only [Act.put, List.setIfInBounds_toArray, List.set_cons_zero, List.set_cons_succ])
    refine held.take (i := 9) (v := .pointer (some ⟨w.heap.size, 0, none⟩)) rfl (by kernel_rfl) (by kernel_rfl) (by kernel_rfl) (fun _ _ _ h => h) (Or.inl ⟨by rfl, fun W hW => by (try dsimp only at hW); go_simp⟩) (by assumption) ?_
    (try simp only [Act.put, List.setIfInBounds_toArray, List.set_cons_zero, List.set_cons_succ])
    refine held.take (i := 10) (v := .int .i64 (x : Int)) rfl (by kernel_rfl) (by kernel_rfl) (by kernel_rfl) (fun _ _ _ h => h) (Or.inl ⟨by rfl, fun W hW => by (try dsimp only at hW); go_simp⟩) (by assumption) ?_
    (try simp only [Act.put, List.setIfInBounds_toArray, List.set_cons_zero, List.set_cons_succ])
    refine held.take (i := 11) (v := .pointer (some ⟨w.heap.size, 1, none⟩)) rfl (by kernel_rfl) (by kernel_rfl) (by kernel_rfl) (fun _ _ _ h => h) (Or.inl ⟨by rfl, fun W hW => by (try dsimp only at hW); go_simp⟩) (by assumption) ?_
    (try simp only [Act.put, List.setIfInBounds_toArray, List.set_cons_zero, List.set_cons_succ])
    refine held.take (i := 12) (v := .int .i64 (y : Int)) rfl (by kernel_rfl) (by kernel_rfl) (by kernel_rfl) (fun _ _ _ h => h) (Or.inl ⟨by rfl, fun W hW => by (try dsimp only at hW); go_simp⟩) (by assumption) ?_
    (try simp only [Act.put, List.setIfInBounds_toArray, List.set_cons_zero, List.set_cons_succ])
    refine held.take (i := 13) (v := .int .i64 ((x : Int) + y)) rfl (by kernel_rfl) (by kernel_rfl) (by kernel_rfl) (fun _ _ _ h => h) (Or.inl ⟨by rfl, fun W hW => by (try dsimp only at hW); go_simp⟩) (by assumption) ?_
    (try simp only [Act.put, List.setIfInBounds_toArray, List.set_cons_zero, List.set_cons_succ])
    refine held.take (i := 14) (v := .slice (tailA A c x) y (c - x)) rfl (by kernel_rfl) (by kernel_rfl) (by kernel_rfl) (fun _ _ _ h => h) (Or.inl ⟨by rfl, fun W hW => by (try dsimp only at hW); go_simp⟩) (by assumption) ?_
    (try simp only [Act.put, List.setIfInBounds_toArray, List.set_cons_zero, List.set_cons_succ])
    refine held.only (i := 5) (by kernel_rfl) rfl (fun K hK => ?_)
    go_simp
    have D2 := Made.next D1' ((Below.refl _ _).alloc (Nat.le_refl _) (.cells #[] 9))
    have T2 := SK.out _ D2
    refine hK.out _ _ (by (try dsimp only); first | assumption | exact ⟨by assumption, by assumption, by assumption, by assumption⟩) (fun hHeld => ?_)
    clear hK K
    (try simp only [Act.put, List.setIfInBounds_toArray, List.set_cons_zero, List.set_cons_succ])
    refine held.only (i := 15) (by kernel_rfl) rfl (fun K hK => ?_)
    refine step_append_texts rfl (.tmp 23) (.tmp 32) rfl (w.heap.size + 2) _ 0 [] (by first | rfl | simp [Act.eval, Act.put]) HO0.out (tailA A c x) y (c - x) _ (gone L x y) (by first | rfl | simp [Act.eval, Act.put]) (HM.out _ D2.1).len (HM.out _ D2.1).nil (HM.out _ D2.1).srd (by omega) (by simp; omega) ?_
    intro v3 w3 hown3 hgrow3
    obtain ⟨A3, c3, rfl⟩ := own_form hown3
    have D3 := Made.grown D2 hgrow3 HO0.out
    have T3 := SK.out _ D3
    refine hK.out _ _ (by (try dsimp only); first | assumption | exact ⟨by assumption, by assumption, by assumption, by assumption⟩) (fun hHeld => ?_)
    clear hK K
    (try simp only [Act.put, List.setIfInBounds_toArray, List.set_cons_zero, List.set_cons_succ])
    refine held.take (i := 16) (v := .agg #[.int .i64 (x : Int), .int .i64 (m : Int), .slice A3 (0 + y) c3]) rfl (by kernel_rfl) (by kernel_rfl) (by kernel_rfl) (fun _ _ _ h => h) (Or.inl ⟨by rfl, fun W hW => by (try dsimp only at hW); go_simp⟩) (by assumption) ?_
    (try simp only [Act.put, List.setIfInBounds_toArray, List.set_cons_zero, List.set_cons_succ])
    refine held.only (i := 17) (by kernel_rfl) rfl (fun K hK => ?_)
    refine step_storeS rfl (.tmp 4) (.tmp 34) rfl (w.heap.size + 1) x m A3 (0 + y) c3 rfl rfl D3.2.2 ?_
    intro w4 hA4 hO4
    have D4 := D3.only hA4 hO4
    have T4 := SK.out w4 D4
    refine hK.out _ _ (by (try dsimp only); first | assumption | exact ⟨by assumption, by assumption, by assumption, by assumption⟩) (fun hHeld => ?_)
    clear hK K
    (try simp only [Act.put, List.setIfInBounds_toArray, List.set_cons_zero, List.set_cons_succ])
    refine held.take (i := 18) (v := .int .i64 0) rfl (by kernel_rfl) (by kernel_rfl) (by kernel_rfl) (fun _ _ _ h => h) (Or.inl ⟨by rfl, fun W hW => by (try dsimp only at hW); go_simp⟩) (by assumption) ?_
    (try simp only [Act.put, List.setIfInBounds_toArray, List.set_cons_zero, List.set_cons_succ])
    refine wpAnyH_done (by kernel_rfl) ?_ _
    refine NoPanic.normal ?_
    obtain ⟨d0, d1, d2⟩ := three_at hA4
    have e0 : ([] : List Value) ++ List.map Value.string (gone L x y) = List.map Value.string (gone L x y) := List.nil_append _
    have ho3 := hown3
    have e1 : (#[] : Array Value).toList ++ List.map Value.string (gone L x y) = List.map Value.string (gone L x y) := rfl
    rw [Nat.zero_add] at ho3
    have HR3 := Lib.hid (row_only ho3 hO4 (by omega))
    have HB3 := Lib.hid D4.1
    have HN2 := Lib.hid (HM.out _ D2.1).len
    clear T1 T1' T2 T3 T4 D1 D1' D2 D3 D4 hA4 hO4 c0 c1 c2 hHeld S1 hw SK hown3 ho3 hgrow3 e0 e1
    go_wp2_with fail
    refine bodyPost_ret (v := .tuple #[.agg #[.int .i64 (x : Int), .int .i64 (m : Int),   .slice A3 (0 + y) c3], .int .i64 0]) (by simp [results, Tryd.results15, go_sem, d0, d1, d2]) rfl (.inr ⟨rfl, A3, 0 + y, c3, rfl, A3, 0 + y, c3, rfl, by rw [Nat.zero_add]; exact HN2.out, by rw [Nat.zero_add]; exact row_lift HR3.out (by omega), HB3.out⟩)
  · have hkb : (k == 0) = false := by simpa using hk0
    have hkn : (k != 0) = true := by rw [bne, hkb]; rfl
    have HK0 := Lib.hid hk0
    clear hk0
    go_enter Tryd.func15, Tryd.ntmps15
    go_wp2_with fail
    go_at_call 13
    refine C.out.mono ?_
    rintro e w1 hE
    obtain ⟨rfl, hB1⟩ := StepSays.err hE HK0.out
    have HB := Lib.hid (HB0.out.trans (hB1.mono (by rw [HZ.out]; omega)))
    have hz1 : w.heap.size + 2 ≤ w1.heap.size := by have := hB1.size; rw [HZ.out] at this; exact this
    have hR1 := HR.out.same (hB1.block _ (by rw [HZ.out]; omega))
    have HR1 := Lib.hid hR1
    clear hB1 HA HB0 C hR1
    go_wp2_with (refine wpList_storeS rfl (.tmp 4) (.tmp 16) rfl (w.heap.size + 1) 0 0 none 0 0 rfl rfl _ _ _ HR1.out ?_; intro w2 hA2 hO2)
    obtain ⟨c0, c1, c2⟩ := three_at hA2
    refine bodyPost_ret (v := .tuple #[.agg #[.int .i64 0, .int .i64 0, .slice none 0 0], .int .i64 k]) (by simp [results, Tryd.results15, go_sem, c0, c1, c2]) rfl (.inl ⟨HK0.out, rfl, HB.out.trans (hO2.below (by omega))⟩)
end Go.Proofs.YtakckmelojobkaaDoor.sps
