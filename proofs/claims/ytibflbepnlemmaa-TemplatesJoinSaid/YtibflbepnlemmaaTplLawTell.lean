/- TemplatesTell, walked. -/
import Derived.Test.YtibflbepnlemmaaTplDoes
import Derived.Test.YtibflbepnlemmaaHeld
namespace Go.Proofs.Ytibflbepnlemmaa.tpl
open Go.RowKit Go.Lib
set_option linter.unusedVariables false
set_option linter.unusedSimpArgs false
set_option linter.unnecessarySimpa false
set_option linter.unusedSectionVars false

/-- The pairs stand, and all that stood at wb stands. -/
def Mo (wb : World) (b : Nat) (f : Nat → Int) (W : World) : Prop := Sp W b f ∧ Below wb.heap.size wb W
theorem Mo.next {wb W W' : World} {b : Nat} {f : Nat → Int} (h : Mo wb b f W) (hB : Below W.heap.size W W') : Mo wb b f W' :=
  ⟨At.keep h.1 hB (At.lt h.1), h.2.trans (hB.mono h.2.size)⟩
theorem Mo.start {wb : World} {b : Nat} {f : Nat → Int} (h : Sp wb b f) : Mo wb b f wb := ⟨h, Below.refl _ _⟩
theorem Mo.drew {wb W : World} {b : Nat} {f : Nat → Int} (h : Mo wb b f W) : Mo wb b f W.drew := ⟨h.1, below_drew h.2⟩
theorem Mo.load {wb W : World} {b : Nat} {f : Nat → Int} (h : Mo wb b f W) : (Instr.loadAt 23 (.pointer (some ⟨b, 0, none⟩))).run Try.prog W = .ok (.agg (spA f)) W := load23 h.1

set_option maxHeartbeats 4000000 in
set_option maxRecDepth 100000 in
theorem law3 (l s : List UInt8) (f : Nat → Int) (w : World) (hl : l.length ≤ maxLen) (hs : s.length ≤ maxLen) :
    Calls Try.prog 3 #[.string (B l), .string (B s), .agg (spA f)] w fun e w' => e = .returned (.bool true) ∧ Below w.heap.size w w' := by
  unfold maxLen at hl hs
  obtain ⟨m, hm⟩ : ∃ m, l.length = m := ⟨_, rfl⟩
  obtain ⟨n, hn⟩ : ∃ n, s.length = n := ⟨_, rfl⟩
  have hsz : (B l).size = m := by rw [B_size]; exact hm
  have hsy : (B s).size = n := by rw [B_size]; exact hn
  have HM := Lib.hid hm
  have HN := Lib.hid hn
  rw [hm] at hl
  rw [hn] at hs
  clear hm hn
  by_cases hbig : 3000 < m
  · go_enter Try.func3, Try.ntmps3
    go_wp2_with (refine wpList_boxSp rfl _ rfl f rfl ?_; intro w1 hs1 hp1 hb1)
    go_ret
    exact ⟨rfl, hb1⟩
  · by_cases hbig2 : 3000 < n
    · go_enter Try.func3, Try.ntmps3
      go_wp2_with (refine wpList_boxSp rfl _ rfl f rfl ?_; intro w1 hs1 hp1 hb1)
      go_ret
      exact ⟨rfl, hb1⟩
    · have hll : l.length ≤ 3000 := by rw [HM.out]; omega
      have hss : s.length ≤ 3000 := by rw [HN.out]; omega
      have C1 := Lib.hid (fun W => parse_is l W (by omega))
      have CC := Lib.hid (fun W => refCheck_is l W (by omega))
      have CD := Lib.hid (fun W => does_is W)
      cases hok : ok l with
      | false =>
        have CN := Lib.hid (fun W => expand_nil s f W (by omega))
        have CMN := Lib.hid (fun W => most_nil W)
        rw [show okE l = 110 by unfold okE; rw [hok]; rfl] at CC
        have HO := Lib.hid hok
        clear hok hll hss
        go_enter Try.func3, Try.ntmps3
        go_wp2_with (refine wpList_boxSp rfl _ rfl f rfl ?_; intro w1 hs1 hp1 hb1)
        go_at_call 9
        refine (C1.out _).mono ?_
        rintro e w2 ⟨hs2, hb2⟩
        obtain rfl := hs2.2 HO.out
        have hp2 : Sp w2 w.heap.size f := At.keep hp1 hb2 (At.lt hp1)
        have H2 := Lib.hid (hb1.trans (hb2.mono hb1.size))
        clear hs2 hb1 hb2 hp1 hs1
        go_wp2_with fail
        go_at_call 10
        refine (CC.out _).mono ?_
        rintro e w3 ⟨rfl, hw3⟩
        rw [hw3]
        clear hw3
        go_wp2_with fail
        go_at_call 11
        refine (CMN.out _).mono ?_
        rintro e w3 ⟨rfl, hw3⟩
        rw [hw3]
        clear hw3
        go_wp2_with (refine wpList_loadSpM rfl _ rfl _ rfl f hp2 ?_)
        go_at_call 12
        refine (CN.out _).mono ?_
        rintro e w4 ⟨rfl, hb4⟩
        have H4 := Lib.hid (H2.out.trans (hb4.mono H2.out.size))
        clear hb4 hp2
        go_wp2_with fail
        go_at_call 13
        refine (CD.out _).mono ?_
        rintro e w5 ⟨rfl, hb5⟩
        go_wp2
        go_ret
        exact ⟨rfl, H4.out.trans (hb5.mono H4.out.size)⟩
      | true =>
        rw [show okE l = 0 by unfold okE; rw [hok]; rfl] at CC
        have hxl : (ex (stf f s) l).length ≤ 1000000000 := by
          have h1 := ex_len (stf f s) 3000 (fun k => by have := stf_len f s k; omega) l
          have h2 : l.length * (3000 + 1) ≤ 3000 * 3001 := Nat.mul_le_mul hll (by omega)
          omega
        have CR := Lib.hid (fun W => refExpand_is l s f W (by omega) (by omega) hxl)
        have CM := Lib.hid (fun W => refMost_is l W (by omega))
        have HO := Lib.hid (And.intro hok (And.intro hll (And.intro hss hxl)))
        generalize hX0 : ex (stf f s) l = X at CR
        generalize hM0 : mo l = M at CM
        have HX0 := Lib.hid hX0
        have HM0 := Lib.hid hM0
        clear hok hll hss hxl hX0 hM0
        go_enter Try.func3, Try.ntmps3
        go_wp2_with (refine wpList_boxSp rfl _ rfl f rfl ?_; intro w1 hs1 hp1 hb1)
        go_at_call 9
        refine (C1.out _).mono ?_
        rintro e w2 ⟨hs2, hb2⟩
        obtain ⟨v, ps, rfl, hT, hX, hM, hL⟩ := hs2.1 HO.out.1
        have hp2 : Sp w2 w.heap.size f := At.keep hp1 hb2 (At.lt hp1)
        have H2 := Lib.hid (hb1.trans (hb2.mono hb1.size))
        have hle : ps.length ≤ 1000000 := by have := HO.out.2.1; omega
        have hxp : exP (stf f s) ps = X := (hX _).trans HX0.out
        have hmp : moP ps = M := hM.trans HM0.out
        have K12 : Hid (∀ W, Mo w2 w.heap.size f W → Calls Try.prog 12 #[v, .string (B s), .agg (spA f)] W fun e w' => e = .returned (.string (B X)) ∧ w'.rangeAt w.heap.size 0 (spL f) ∧ Mo w2 w.heap.size f w') := Lib.hid (fun W hW => by
          have := expand_is v ps s f W hle (by have := HO.out.2.2.1; omega) (by rw [hX]; exact HO.out.2.2.2) (hT.below hW.2)
          rw [hxp] at this
          exact this.mono fun e w' h => ⟨h.1, (hW.next h.2).1.range, hW.next h.2⟩)
        have K11 : Hid (∀ W, Mo w2 w.heap.size f W → Calls Try.prog 11 #[v] W fun e w' => e = .returned (.int .i64 (M : Nat)) ∧ w'.rangeAt w.heap.size 0 (spL f) ∧ Mo w2 w.heap.size f w') := Lib.hid (fun W hW => by
          have := most_is v ps W hle (hT.below hW.2)
          rw [hmp] at this
          exact this.mono fun e w' h => ⟨h.1, by rw [h.2]; exact hW.1.range, by rw [h.2]; exact hW⟩)
        have K14 : Hid (∀ W, Mo w2 w.heap.size f W → Calls Try.prog 14 #[.string (B l)] W fun e w' => e = .returned (.int .i64 (M : Nat)) ∧ w'.rangeAt w.heap.size 0 (spL f) ∧ Mo w2 w.heap.size f w') := Lib.hid (fun W hW => (CM.out W).mono fun e w' h => ⟨h.1, by rw [h.2]; exact hW.1.range, by rw [h.2]; exact hW⟩)
        have K15 : Hid (∀ W, Mo w2 w.heap.size f W → Calls Try.prog 15 #[.string (B l), .string (B s), .agg (spA f)] W fun e w' => e = .returned (.string (B X)) ∧ w'.rangeAt w.heap.size 0 (spL f) ∧ Mo w2 w.heap.size f w') := Lib.hid (fun W hW => (CR.out W).mono fun e w' h => ⟨h.1, (hW.next h.2).1.range, hW.next h.2⟩)
        have K13 : Hid (∀ W, Mo w2 w.heap.size f W → Calls Try.prog 13 #[] W fun e w' => e = .returned (.bool true) ∧ w'.rangeAt w.heap.size 0 (spL f) ∧ Mo w2 w.heap.size f w') := Lib.hid (fun W hW => (CD.out W).mono fun e w' h => ⟨h.1, (hW.next h.2).1.range, hW.next h.2⟩)
        have M1 : Mo w2 w.heap.size f w2 := Mo.start hp2
        have M1' : Mo w2 w.heap.size f w2.drew := M1.drew
        have R1 : w2.rangeAt w.heap.size 0 (spL f) := hp2.range
        have R1' : w2.drew.rangeAt w.heap.size 0 (spL f) := M1'.1.range
        have hu23 := und23
        have hi23 : (Try.prog.info? 23).map (·.size) = some (spL f).length := by rw [spL_len]; exact inf23
        obtain ⟨bv, hbv⟩ : ∃ b, v = .pointer (some ⟨b, 0, none⟩) := by obtain ⟨b, A, c, e, _⟩ := hT; exact ⟨b, e⟩
        subst hbv
        clear hs2 hb1 hb2 hp1 hs1 hT hX hM hL hle hxp hmp C1 CR CM CD hp2
        go_wp2_with fail
        go_at_call 10
        refine (CC.out _).mono ?_
        rintro e w3 ⟨rfl, hw3⟩
        rw [hw3]
        clear hw3
        go_wp2_with fail
        refine wp_region_noPanic ?_
        refine wp_region_held_drew (S := fun W => W.rangeAt w.heap.size 0 (spL f) ∧ Mo w2 w.heap.size f W) (by kernel_rfl) (by (try dsimp only); (first | assumption | exact ⟨by assumption, by assumption⟩)) (fun hHeld => ?_)
        refine held.take (i := 0) (v := _) rfl (by kernel_rfl) (by kernel_rfl) (by kernel_rfl) (fun _ _ _ h => h) (Or.inl ⟨by rfl, fun _ _ => rfl⟩) (by assumption) ?_
        (try simp only [Act.put, List.setIfInBounds_toArray, List.set_cons_zero, List.set_cons_succ])
        refine held.take (i := 2) (v := _) rfl (by kernel_rfl) (by kernel_rfl) (by kernel_rfl) (fun _ _ _ h => h) (Or.inl ⟨by rfl, fun _ _ => rfl⟩) (by assumption) ?_
        (try simp only [Act.put, List.setIfInBounds_toArray, List.set_cons_zero, List.set_cons_succ])
        refine held.only (i := 1) (by kernel_rfl) rfl (fun K hK => ?_)
        go_simp
        go_at_call 11; refine (K11.out _ ?_).mono ?_; (exact And.right hHeld); rintro e w' ⟨rfl, hQ, hS⟩
        refine hK.out _ _ (by (try dsimp only); (first | assumption | exact ⟨by assumption, by assumption⟩)) (fun hHeld => ?_)
        clear hK K
        (try simp only [Act.put, List.setIfInBounds_toArray, List.set_cons_zero, List.set_cons_succ])
        refine held.only (i := 3) (by kernel_rfl) rfl (fun K hK => ?_)
        go_simp
        go_at_call 14; refine (K14.out _ ?_).mono ?_; (exact And.right hHeld); rintro e w' ⟨rfl, hQ, hS⟩
        refine hK.out _ _ (by (try dsimp only); (first | assumption | exact ⟨by assumption, by assumption⟩)) (fun hHeld => ?_)
        clear hK K
        (try simp only [Act.put, List.setIfInBounds_toArray, List.set_cons_zero, List.set_cons_succ])
        refine held.take (i := 4) (v := .bool true) rfl (by kernel_rfl) (by kernel_rfl) (by kernel_rfl) (fun _ _ _ h => h) (Or.inl ⟨by rfl, fun W hW => by go_simp⟩) (by assumption) ?_
        (try simp only [Act.put, List.setIfInBounds_toArray, List.set_cons_zero, List.set_cons_succ])
        refine held.take (i := 5) (v := _) rfl (by kernel_rfl) (by kernel_rfl) (by kernel_rfl) (fun _ _ _ h => h) (Or.inl ⟨by rfl, fun _ _ => rfl⟩) (by assumption) ?_
        (try simp only [Act.put, List.setIfInBounds_toArray, List.set_cons_zero, List.set_cons_succ])
        refine held.take (i := 6) (v := _) rfl (by kernel_rfl) (by kernel_rfl) (by kernel_rfl) (fun _ _ _ h => h) (Or.inl ⟨by rfl, fun _ _ => rfl⟩) (by assumption) ?_
        (try simp only [Act.put, List.setIfInBounds_toArray, List.set_cons_zero, List.set_cons_succ])
        refine held.take (i := 7) (v := _) rfl (by kernel_rfl) (by kernel_rfl) (by kernel_rfl) (fun _ _ _ h => h) (Or.inl ⟨by rfl, fun _ _ => rfl⟩) (by assumption) ?_
        (try simp only [Act.put, List.setIfInBounds_toArray, List.set_cons_zero, List.set_cons_succ])
        refine held.take (i := 8) (v := _) rfl (by kernel_rfl) (by kernel_rfl) (by kernel_rfl) (fun _ _ _ h => h) (yieldsIf_load_mid (by rfl) _ _ rfl _ _ rfl _ _ (fun W hW => And.left hW) hu23 rfl hi23) (by assumption) ?_
        (try simp only [Act.put, List.setIfInBounds_toArray, List.set_cons_zero, List.set_cons_succ])
        refine held.take (i := 10) (v := _) rfl (by kernel_rfl) (by kernel_rfl) (by kernel_rfl) (fun _ _ _ h => h) (Or.inl ⟨by rfl, fun _ _ => rfl⟩) (by assumption) ?_
        (try simp only [Act.put, List.setIfInBounds_toArray, List.set_cons_zero, List.set_cons_succ])
        refine held.take (i := 11) (v := _) rfl (by kernel_rfl) (by kernel_rfl) (by kernel_rfl) (fun _ _ _ h => h) (Or.inl ⟨by rfl, fun _ _ => rfl⟩) (by assumption) ?_
        (try simp only [Act.put, List.setIfInBounds_toArray, List.set_cons_zero, List.set_cons_succ])
        refine held.take (i := 12) (v := _) rfl (by kernel_rfl) (by kernel_rfl) (by kernel_rfl) (fun _ _ _ h => h) (yieldsIf_load_mid (by rfl) _ _ rfl _ _ rfl _ _ (fun W hW => And.left hW) hu23 rfl hi23) (by assumption) ?_
        (try simp only [Act.put, List.setIfInBounds_toArray, List.set_cons_zero, List.set_cons_succ])
        refine held.only (i := 9) (by kernel_rfl) rfl (fun K hK => ?_)
        go_simp
        go_at_call 12; refine (K12.out _ ?_).mono ?_; (exact And.right hHeld); rintro e w' ⟨rfl, hQ, hS⟩
        refine hK.out _ _ (by (try dsimp only); (first | assumption | exact ⟨by assumption, by assumption⟩)) (fun hHeld => ?_)
        clear hK K
        (try simp only [Act.put, List.setIfInBounds_toArray, List.set_cons_zero, List.set_cons_succ])
        refine held.only (i := 13) (by kernel_rfl) rfl (fun K hK => ?_)
        go_simp
        go_at_call 15; refine (K15.out _ ?_).mono ?_; (exact And.right hHeld); rintro e w' ⟨rfl, hQ, hS⟩
        refine hK.out _ _ (by (try dsimp only); (first | assumption | exact ⟨by assumption, by assumption⟩)) (fun hHeld => ?_)
        clear hK K
        (try simp only [Act.put, List.setIfInBounds_toArray, List.set_cons_zero, List.set_cons_succ])
        refine held.take (i := 14) (v := .bool true) rfl (by kernel_rfl) (by kernel_rfl) (by kernel_rfl) (fun _ _ _ h => h) (Or.inl ⟨by rfl, fun W hW => by go_simp⟩) (by assumption) ?_
        (try simp only [Act.put, List.setIfInBounds_toArray, List.set_cons_zero, List.set_cons_succ])
        refine held.take (i := 15) (v := .bool true) rfl (by kernel_rfl) (by kernel_rfl) (by kernel_rfl) (fun _ _ _ h => h) (Or.inl ⟨by rfl, fun W hW => by go_simp⟩) (by assumption) ?_
        (try simp only [Act.put, List.setIfInBounds_toArray, List.set_cons_zero, List.set_cons_succ])
        refine held.take (i := 16) (v := _) rfl (by kernel_rfl) (by kernel_rfl) (by kernel_rfl) (fun _ _ _ h => h) (Or.inl ⟨by rfl, fun _ _ => rfl⟩) (by assumption) ?_
        (try simp only [Act.put, List.setIfInBounds_toArray, List.set_cons_zero, List.set_cons_succ])
        refine held.only (i := 17) (by kernel_rfl) rfl (fun K hK => ?_)
        go_simp
        go_at_call 13; refine (K13.out _ ?_).mono ?_; (exact And.right hHeld); rintro e w' ⟨rfl, hQ, hS⟩
        refine hK.out _ _ (by (try dsimp only); (first | assumption | exact ⟨by assumption, by assumption⟩)) (fun hHeld => ?_)
        clear hK K
        (try simp only [Act.put, List.setIfInBounds_toArray, List.set_cons_zero, List.set_cons_succ])
        refine held.take (i := 18) (v := .bool true) rfl (by kernel_rfl) (by kernel_rfl) (by kernel_rfl) (fun _ _ _ h => h) (Or.inl ⟨by rfl, fun W hW => by go_simp⟩) (by assumption) ?_
        (try simp only [Act.put, List.setIfInBounds_toArray, List.set_cons_zero, List.set_cons_succ])
        refine held.take (i := 19) (v := _) rfl (by kernel_rfl) (by kernel_rfl) (by kernel_rfl) (fun _ _ _ h => h) (Or.inl ⟨by rfl, fun _ _ => rfl⟩) (by assumption) ?_
        (try simp only [Act.put, List.setIfInBounds_toArray, List.set_cons_zero, List.set_cons_succ])
        refine wpAnyH_done (by kernel_rfl) ?_ _
        refine NoPanic.normal ?_
        have HE := Lib.hid (H2.out.trans (hHeld.2.2.mono H2.out.size))
        clear hHeld hQ hS K11 K12 K13 K14 K15 M1 M1' R1 R1' hu23 hi23
        go_wp2
        go_ret
        exact ⟨rfl, HE.out⟩
theorem law3L (t s : ByteArray) (f : Nat → Int) (w : World) (ht : t.size ≤ maxLen) (hl : s.size ≤ maxLen) :
    Calls Try.prog 3 #[.string t, .string s, .agg (spA f)] w fun e w' => e = .returned (.bool true) ∧ Below w.heap.size w w' := by
  have := law3 t.data.toList s.data.toList f w (by rw [Array.length_toList]; exact ht) (by rw [Array.length_toList]; exact hl)
  rwa [B_list, B_list] at this
end Go.Proofs.Ytibflbepnlemmaa.tpl
