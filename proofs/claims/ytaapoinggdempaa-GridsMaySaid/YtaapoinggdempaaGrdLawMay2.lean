/- GridsMay, walked: one way of eight. -/
import Derived.Test.YtaapoinggdempaaGrdMayKit
import Derived.StillTailTactics
namespace Go.Proofs.Ytaapoinggdempaa.grd
open Go.RowKit Go.Lib
set_option linter.unusedVariables false
set_option linter.unusedSimpArgs false
set_option linter.unnecessarySimpa false
set_option linter.unusedSectionVars false

set_option maxHeartbeats 16000000 in
set_option maxRecDepth 100000 in
theorem law8_way2 (n m : Nat) (hn1 : 2 ≤ n) (hn2 : n ≤ 60) (hm1 : 8 ≤ m) (hm2 : m ≤ 132) (a0 a1 : Int) (ha0 : 0 ≤ a0 ∧ a0 ≤ 255) (ha1 : 0 ≤ a1 ∧ a1 ≤ 255) (hn : 2 + a0 % 59 = (n : Int)) (hm : 8 + a1 % 125 = (m : Int)) (cr cc : Int) (cb : UInt8) (ct : Nat) (hct : ct = cb.toNat) (hbx1 : decide (0 ≤ cr) = false) (hby1 : decide (0 ≤ cc) = true) (hbz1 : decide (32 ≤ (ct : Int)) = false) (w : World) :
    Calls Try.prog 8 #[.int .u8 a0, .int .u8 a1, .agg #[.int .i64 cr, .int .i64 cc, .int .u8 (ct : Int)]] w fun e w' => e = .returned (.bool true) ∧ Below w.heap.size w w' := by
  obtain ⟨ha00, ha01⟩ := ha0
  obtain ⟨ha10, ha11⟩ := ha1
  obtain ⟨p, hp⟩ : ∃ p : Nat, p + 1 = n := ⟨n - 1, by omega⟩
  obtain ⟨q, hq⟩ : ∃ q : Nat, q + 1 = m := ⟨m - 1, by omega⟩
  have hpn : (n : Int) - 1 = (p : Int) := by omega
  have hqm : (m : Int) - 1 = (q : Int) := by omega
  have hp2 : p < n := by omega
  have hq2 : q < m := by omega
  have hp3 : 0 ≤ (p : Int) := by omega
  have HCT := Lib.hid hct
  have HFEW := Lib.hid (few_blank n m hn2 hm2)
  have C5 := Lib.hid (At.new w 42 #[.int .i64 cr, .int .i64 cc, .int .u8 (ct : Int)])
  have BB := Lib.hid ((Below.refl w.heap.size w).alloc (Nat.le_refl _) (.cells #[.int .i64 cr, .int .i64 cc, .int .u8 (ct : Int)] 42))
  clear hp hq hct
  go_enter Try.func8, Try.ntmps8
  go_wp2_with fail
  go_at_call 9
  clear hn hm ha00 ha01 ha10 ha11
  refine (new_yes n m hn1 hn2 hm1 hm2 _).mono ?_
  rintro e w1 ⟨h0, rfl, hG, hB⟩
  have C5 := Lib.hid (C5.out.keep hB C5.out.lt)
  have BB := Lib.hid (BB.out.trans (hB.mono BB.out.size))
  have G9 : Hid (Gr w1 w.heap.size w1.heap.size (some ⟨h0, 0, none⟩) n n (blankC n m)) := Lib.hid (hG.mono (by simp) (Nat.le_refl _))
  have HZ := Lib.hid (newZ w1)
  have zz := C5.out.lt
  have nn : ((n : Int) != (n : Int)) = false := by simp
  have mm : ((m : Int) != (m : Int)) = false := by simp
  clear hG hB
  go_wp2_with (refine wpList_storeG rfl (.tmp 9) (.tmp 27) rfl w1.heap.size n m 0 0 (some ⟨h0, 0, none⟩) n n rfl rfl _ HZ.out rfl ?_; intro W1 hA1 hU1; have L1 := laid hU1; have C5 := Lib.hid (C5.out.keep L1.1 C5.out.lt); have G9 := Lib.hid (G9.out.below L1.1 (Nat.le_refl _)); have BB := Lib.hid (BB.out.trans (L1.1.mono BB.out.size)); have A9 := Lib.hid hA1; have y1 : w1.heap.size < W1.heap.size := hA1.lt; obtain ⟨r2, s2, B2, d2, e3, _, _, f1, _, _, v2⟩ := G9.out.at p (List.replicate m 32) (by unfold blankC; rw [List.getElem?_replicate, if_pos hp2]); injection e3 with e3; injection e3 with e3 e4; subst e3 e4; rw [List.length_replicate, Nat.zero_add] at f1; clear hA1 hU1 L1 v2; obtain ⟨a0, a1, a2, a3, a4⟩ := A9.out.five)
  clear f1
  go_at_call 15
  refine (clone_is n m 0 0 _ n n (blankC n m) _ HFEW.out (G9.out.mono (Nat.zero_le _) (by omega))).mono ?_
  rintro e w2 ⟨h2, rfl, hO, hB⟩
  have C5 := Lib.hid (C5.out.keep hB C5.out.lt)
  have A9 := Lib.hid (A9.out.keep hB A9.out.lt)
  have G9 := Lib.hid (G9.out.below hB (by omega))
  have BB := Lib.hid (BB.out.trans (hB.mono BB.out.size))
  have x2 := hB.size
  have O2 : Hid (Gr w2 W1.heap.size w2.heap.size (some ⟨h2, 0, none⟩) n n (blankC n m)) := Lib.hid (hO.rows HFEW.out)
  have HZ := Lib.hid (newZ w2)
  clear hO hB a0 a1 a2 a3 a4
  go_wp2_with (refine wpList_storeG rfl (.tmp 11) (.tmp 50) rfl w2.heap.size n m 0 0 (some ⟨h2, 0, none⟩) n n rfl rfl _ HZ.out rfl ?_; intro W2 hA hU; have L := laid hU; have y2 : w2.heap.size < W2.heap.size := hA.lt; have C5 := Lib.hid (C5.out.keep L.1 C5.out.lt); have A9 := Lib.hid (A9.out.keep L.1 A9.out.lt); have G9 := Lib.hid (G9.out.below L.1 (by omega)); have O2 := Lib.hid (O2.out.below L.1 (by omega)); have BB := Lib.hid (BB.out.trans (L.1.mono BB.out.size)); have NA := Lib.hid hA; clear hA hU L; obtain ⟨a0, a1, a2, a3, a4⟩ := A9.out.five; obtain ⟨u0, u1, u2, u3, u4⟩ := NA.out.five; have uf := NA.out.frozen 3; have c0 := C5.out.cell 0; have c1 := C5.out.cell 1; have c2 := C5.out.cell 2; have ne1 : ¬ w1.heap.size = w2.heap.size := (by omega); have ne2 : ¬ w2.heap.size = w1.heap.size := (by omega); have ne3 : ¬ w.heap.size = w2.heap.size := (by omega); have ne4 : ¬ w2.heap.size = w.heap.size := (by omega))
  have C5 := Lib.hid (C5.out.far (p := ⟨w2.heap.size, 3, none⟩) (by show _ ≠ _; dsimp only; omega) (.int .i64 cr))
  have A9 := Lib.hid (A9.out.far (p := ⟨w2.heap.size, 3, none⟩) (by show _ ≠ _; dsimp only; omega) (.int .i64 cr))
  have G9 := Lib.hid (G9.out.far (p := ⟨w2.heap.size, 3, none⟩) (.inr (by show _ ≤ w2.heap.size; omega)) (.int .i64 cr))
  have O2 := Lib.hid (O2.out.far (p := ⟨w2.heap.size, 3, none⟩) (.inr (by show _ ≤ w2.heap.size; omega)) (.int .i64 cr))
  have A11 := Lib.hid (NA.out.set 3 (.int .i64 cr))
  have BB := Lib.hid (BB.out.setCell (p := ⟨w2.heap.size, 3, none⟩) (by show _ ≤ w2.heap.size; omega) (.int .i64 cr))
  have sz2 : Hid ((W2.setCell ⟨w2.heap.size, 3, none⟩ (.int .i64 cr)).heap.size = W2.heap.size) := Lib.hid (by simp [World.setCell])
  clear NA u0 u1 u2 u3 u4 uf c0 c1 c2 ne1 ne2 ne3 ne4
  clear a0 a1 a2 a3 a4
  generalize (W2.setCell ⟨w2.heap.size, 3, none⟩ (.int .i64 cr)) = X2 at C5 A9 G9 O2 A11 BB sz2 ⊢
  have v2 : W2.heap.size ≤ X2.heap.size := Nat.le_of_eq sz2.out.symm
  clear sz2
  obtain ⟨a0, a1, a2, a3, a4⟩ := A9.out.five
  go_at_call 15
  refine (clone_is n m 0 0 _ n n (blankC n m) _ HFEW.out (G9.out.mono (Nat.zero_le _) (by omega))).mono ?_
  rintro e w3 ⟨h3, rfl, hO, hB⟩
  have C5 := Lib.hid (C5.out.keep hB C5.out.lt)
  have A9 := Lib.hid (A9.out.keep hB A9.out.lt)
  have G9 := Lib.hid (G9.out.below hB (by omega))
  have O2 := Lib.hid (O2.out.below hB (by omega))
  have A11 := Lib.hid (A11.out.keep hB A11.out.lt)
  have BB := Lib.hid (BB.out.trans (hB.mono BB.out.size))
  have x3 := hB.size
  have O3 : Hid (Gr w3 X2.heap.size w3.heap.size (some ⟨h3, 0, none⟩) n n (blankC n m)) := Lib.hid (hO.rows HFEW.out)
  have HZ := Lib.hid (newZ w3)
  clear hO hB a0 a1 a2 a3 a4
  go_wp2_with (refine wpList_storeG rfl (.tmp 12) (.tmp 55) rfl w3.heap.size n m 0 0 (some ⟨h3, 0, none⟩) n n rfl rfl _ HZ.out rfl ?_; intro W3 hA hU; have L := laid hU; have y3 : w3.heap.size < W3.heap.size := hA.lt; have C5 := Lib.hid (C5.out.keep L.1 C5.out.lt); have A9 := Lib.hid (A9.out.keep L.1 A9.out.lt); have G9 := Lib.hid (G9.out.below L.1 (by omega)); have O2 := Lib.hid (O2.out.below L.1 (by omega)); have A11 := Lib.hid (A11.out.keep L.1 A11.out.lt); have O3 := Lib.hid (O3.out.below L.1 (by omega)); have BB := Lib.hid (BB.out.trans (L.1.mono BB.out.size)); have NA := Lib.hid hA; clear hA hU L; obtain ⟨a0, a1, a2, a3, a4⟩ := A9.out.five; obtain ⟨u0, u1, u2, u3, u4⟩ := NA.out.five; have uf := NA.out.frozen 4; have c0 := C5.out.cell 0; have c1 := C5.out.cell 1; have c2 := C5.out.cell 2; have ne1 : ¬ w1.heap.size = w3.heap.size := (by omega); have ne2 : ¬ w3.heap.size = w1.heap.size := (by omega); have ne3 : ¬ w.heap.size = w3.heap.size := (by omega); have ne4 : ¬ w3.heap.size = w.heap.size := (by omega))
  have C5 := Lib.hid (C5.out.far (p := ⟨w3.heap.size, 4, none⟩) (by show _ ≠ _; dsimp only; omega) (.int .i64 cc))
  have A9 := Lib.hid (A9.out.far (p := ⟨w3.heap.size, 4, none⟩) (by show _ ≠ _; dsimp only; omega) (.int .i64 cc))
  have G9 := Lib.hid (G9.out.far (p := ⟨w3.heap.size, 4, none⟩) (.inr (by show _ ≤ w3.heap.size; omega)) (.int .i64 cc))
  have O2 := Lib.hid (O2.out.far (p := ⟨w3.heap.size, 4, none⟩) (.inr (by show _ ≤ w3.heap.size; omega)) (.int .i64 cc))
  have A11 := Lib.hid (A11.out.far (p := ⟨w3.heap.size, 4, none⟩) (by show _ ≠ _; dsimp only; omega) (.int .i64 cc))
  have O3 := Lib.hid (O3.out.far (p := ⟨w3.heap.size, 4, none⟩) (.inr (by show _ ≤ w3.heap.size; omega)) (.int .i64 cc))
  have A12 := Lib.hid (NA.out.set 4 (.int .i64 cc))
  have BB := Lib.hid (BB.out.setCell (p := ⟨w3.heap.size, 4, none⟩) (by show _ ≤ w3.heap.size; omega) (.int .i64 cc))
  have sz3 : Hid ((W3.setCell ⟨w3.heap.size, 4, none⟩ (.int .i64 cc)).heap.size = W3.heap.size) := Lib.hid (by simp [World.setCell])
  clear NA u0 u1 u2 u3 u4 uf c0 c1 c2 ne1 ne2 ne3 ne4
  clear a0 a1 a2 a3 a4
  generalize (W3.setCell ⟨w3.heap.size, 4, none⟩ (.int .i64 cc)) = X3 at C5 A9 G9 O2 A11 O3 A12 BB sz3 ⊢
  have v3 : W3.heap.size ≤ X3.heap.size := Nat.le_of_eq sz3.out.symm
  clear sz3
  obtain ⟨a0, a1, a2, a3, a4⟩ := A9.out.five
  go_at_call 15
  refine (clone_is n m 0 0 _ n n (blankC n m) _ HFEW.out (G9.out.mono (Nat.zero_le _) (by omega))).mono ?_
  rintro e w4 ⟨h4, rfl, hO, hB⟩
  have C5 := Lib.hid (C5.out.keep hB C5.out.lt)
  have A9 := Lib.hid (A9.out.keep hB A9.out.lt)
  have G9 := Lib.hid (G9.out.below hB (by omega))
  have O2 := Lib.hid (O2.out.below hB (by omega))
  have A11 := Lib.hid (A11.out.keep hB A11.out.lt)
  have O3 := Lib.hid (O3.out.below hB (by omega))
  have A12 := Lib.hid (A12.out.keep hB A12.out.lt)
  have BB := Lib.hid (BB.out.trans (hB.mono BB.out.size))
  have x4 := hB.size
  have O4 := Lib.hid hO
  have HZ := Lib.hid (newZ w4)
  clear hO hB a0 a1 a2 a3 a4
  go_wp2_with (refine wpList_storeG rfl (.tmp 13) (.tmp 60) rfl w4.heap.size n m 0 0 (some ⟨h4, 0, none⟩) n n rfl rfl _ HZ.out rfl ?_; intro W4 hA hU; have L := laid hU; have y4 : w4.heap.size < W4.heap.size := hA.lt; have C5 := Lib.hid (C5.out.keep L.1 C5.out.lt); have A9 := Lib.hid (A9.out.keep L.1 A9.out.lt); have G9 := Lib.hid (G9.out.below L.1 (by omega)); have O2 := Lib.hid (O2.out.below L.1 (by omega)); have A11 := Lib.hid (A11.out.keep L.1 A11.out.lt); have O3 := Lib.hid (O3.out.below L.1 (by omega)); have A12 := Lib.hid (A12.out.keep L.1 A12.out.lt); have O4 := Lib.hid (O4.out.below L.1 (by omega)); have BB := Lib.hid (BB.out.trans (L.1.mono BB.out.size)); have NA := Lib.hid hA; clear hA hU L; obtain ⟨a0, a1, a2, a3, a4⟩ := A9.out.five; obtain ⟨u0, u1, u2, u3, u4⟩ := NA.out.five; have c0 := C5.out.cell 0; have c1 := C5.out.cell 1; have c2 := C5.out.cell 2; obtain ⟨hh, bz, dz, e0, g1, g2, g3, p1, p2, p3, p4, hset⟩ := O4.out.spot p q (List.replicate m 32) 32 (by unfold blankC; rw [List.getElem?_replicate, if_pos hp2]) (by rw [List.getElem?_replicate, if_pos hq2]); injection e0 with e0; injection e0 with e0 _; subst e0; rw [List.length_replicate] at g1; have HSET := Lib.hid hset; clear hset p3 p4; have ne1 : ¬ w1.heap.size = bz := (by omega); have ne2 : ¬ bz = w1.heap.size := (by omega))
  have hq3 : 0 ≤ (q : Int) := by omega
  have wp1 : IntKind.i64.wrap (p : Int) = (p : Int) := by rw [IntKind.wrap_i64]; omega
  have wq1 : IntKind.i64.wrap (q : Int) = (q : Int) := by rw [IntKind.wrap_i64]; omega
  have wp2 : IntKind.i64.wrap ((n : Int) - 1) = (p : Int) := by rw [hpn]; exact wp1
  have wq2 : IntKind.i64.wrap ((m : Int) - 1) = (q : Int) := by rw [hqm]; exact wq1
  go_still_tail 11, (by kernel_rfl)
  change wpList _ _ _ _ _ W4.drew
  clear wp1 wq1 wp2 wq2
  go_wp2_with fail
  have C5 : Hid (At ((W4.setCell ⟨bz, q, none⟩ (.int .u8 (ct : Int))).drew) _ _ _) := Lib.hid (C5.out.far (p := ⟨bz, q, none⟩) (by show _ ≠ _; dsimp only; omega) (.int .u8 (ct : Int)))
  have A9 : Hid (At ((W4.setCell ⟨bz, q, none⟩ (.int .u8 (ct : Int))).drew) _ _ _) := Lib.hid (A9.out.far (p := ⟨bz, q, none⟩) (by show _ ≠ _; dsimp only; omega) (.int .u8 (ct : Int)))
  have G9 : Hid (Gr ((W4.setCell ⟨bz, q, none⟩ (.int .u8 (ct : Int))).drew) _ _ _ _ _ _) := Lib.hid ((G9.out.far (p := ⟨bz, q, none⟩) (.inr (by show _ ≤ bz; omega)) (.int .u8 (ct : Int))).keep fun _ _ _ => rfl)
  have O2 : Hid (Gr ((W4.setCell ⟨bz, q, none⟩ (.int .u8 (ct : Int))).drew) _ _ _ _ _ _) := Lib.hid ((O2.out.far (p := ⟨bz, q, none⟩) (.inr (by show _ ≤ bz; omega)) (.int .u8 (ct : Int))).keep fun _ _ _ => rfl)
  have A11 : Hid (At ((W4.setCell ⟨bz, q, none⟩ (.int .u8 (ct : Int))).drew) _ _ _) := Lib.hid (A11.out.far (p := ⟨bz, q, none⟩) (by show _ ≠ _; dsimp only; omega) (.int .u8 (ct : Int)))
  have O3 : Hid (Gr ((W4.setCell ⟨bz, q, none⟩ (.int .u8 (ct : Int))).drew) _ _ _ _ _ _) := Lib.hid ((O3.out.far (p := ⟨bz, q, none⟩) (.inr (by show _ ≤ bz; omega)) (.int .u8 (ct : Int))).keep fun _ _ _ => rfl)
  have A12 : Hid (At ((W4.setCell ⟨bz, q, none⟩ (.int .u8 (ct : Int))).drew) _ _ _) := Lib.hid (A12.out.far (p := ⟨bz, q, none⟩) (by show _ ≠ _; dsimp only; omega) (.int .u8 (ct : Int)))
  have A13 : Hid (At ((W4.setCell ⟨bz, q, none⟩ (.int .u8 (ct : Int))).drew) w4.heap.size 24 #[.int .i64 n, .int .i64 m, .slice (some ⟨h4, 0, none⟩) n n, .int .i64 0, .int .i64 0]) := Lib.hid (NA.out.far (p := ⟨bz, q, none⟩) (by show _ ≠ _; dsimp only; omega) (.int .u8 (ct : Int)))
  have O4 : Hid (Gr ((W4.setCell ⟨bz, q, none⟩ (.int .u8 (ct : Int))).drew) X3.heap.size w4.heap.size (some ⟨h4, 0, none⟩) n n (setAt (blankC n m) p q cb)) := Lib.hid (((HCT.out ▸ HSET.out cb : Own (W4.setCell ⟨bz, q, none⟩ (.int .u8 (ct : Int))) X3.heap.size w4.heap.size (some ⟨h4, 0, none⟩) n n (setAt (blankC n m) p q cb)).rows (few_set n m hn2 hm2 p q cb)).keep fun _ _ _ => rfl)
  have BB : Hid (Below w.heap.size w ((W4.setCell ⟨bz, q, none⟩ (.int .u8 (ct : Int))).drew)) := Lib.hid (below_drew (BB.out.setCell (p := ⟨bz, q, none⟩) (by show _ ≤ bz; omega) _))
  have sz4 : Hid (((W4.setCell ⟨bz, q, none⟩ (.int .u8 (ct : Int))).drew).heap.size = W4.heap.size) := Lib.hid (by show (W4.setCell _ _).heap.size = _; simp [World.setCell])
  clear NA HSET u0 u1 u2 u3 u4 c0 c1 c2 g1 g2 g3 ne1 ne2 a0 a1 a2 a3 a4 p1 p2
  generalize ((W4.setCell ⟨bz, q, none⟩ (.int .u8 (ct : Int))).drew) = X4 at C5 A9 G9 O2 A11 O3 A12 A13 O4 BB sz4 ⊢
  have v4 : W4.heap.size ≤ X4.heap.size := Nat.le_of_eq sz4.out.symm
  clear sz4
  obtain ⟨a0, a1, a2, a3, a4⟩ := A9.out.five
  go_at_call 15
  refine (clone_is n m 0 0 _ n n (blankC n m) _ HFEW.out (G9.out.mono (Nat.zero_le _) (by omega))).mono ?_
  rintro e w5 ⟨h5, rfl, hO, hB⟩
  have C5 := Lib.hid (C5.out.keep hB C5.out.lt)
  have A9 := Lib.hid (A9.out.keep hB A9.out.lt)
  have G9 := Lib.hid (G9.out.below hB (by omega))
  have O2 := Lib.hid (O2.out.below hB (by omega))
  have A11 := Lib.hid (A11.out.keep hB A11.out.lt)
  have O3 := Lib.hid (O3.out.below hB (by omega))
  have A12 := Lib.hid (A12.out.keep hB A12.out.lt)
  have A13 := Lib.hid (A13.out.keep hB A13.out.lt)
  have O4 := Lib.hid (O4.out.below hB (by omega))
  have BB := Lib.hid (BB.out.trans (hB.mono BB.out.size))
  have x5 := hB.size
  have O5 : Hid (Gr w5 X4.heap.size w5.heap.size (some ⟨h5, 0, none⟩) n n (blankC n m)) := Lib.hid (hO.rows HFEW.out)
  have HZ := Lib.hid (newZ w5)
  clear hO hB a0 a1 a2 a3 a4
  have s2 := fun W => head_rows (some ⟨h5, 0, none⟩) n n p (by omega) W
  go_wp2_with (refine wpList_storeG rfl (.tmp 14) (.tmp 89) rfl w5.heap.size n m 0 0 (some ⟨h5, 0, none⟩) n n rfl rfl _ HZ.out rfl ?_; intro W5 hA hU; have L := laid hU; have y5 : w5.heap.size < W5.heap.size := hA.lt; have C5 := Lib.hid (C5.out.keep L.1 C5.out.lt); have A9 := Lib.hid (A9.out.keep L.1 A9.out.lt); have G9 := Lib.hid (G9.out.below L.1 (by omega)); have O2 := Lib.hid (O2.out.below L.1 (by omega)); have A11 := Lib.hid (A11.out.keep L.1 A11.out.lt); have O3 := Lib.hid (O3.out.below L.1 (by omega)); have A12 := Lib.hid (A12.out.keep L.1 A12.out.lt); have A13 := Lib.hid (A13.out.keep L.1 A13.out.lt); have O4 := Lib.hid (O4.out.below L.1 (by omega)); have O5 := Lib.hid (O5.out.below L.1 (by omega)); have BB := Lib.hid (BB.out.trans (L.1.mono BB.out.size)); have NA := Lib.hid hA; clear hA hU L; obtain ⟨u0, u1, u2, u3, u4⟩ := NA.out.five; have uf := NA.out.frozen 2)
  have C5 := Lib.hid (C5.out.far (p := ⟨w5.heap.size, 2, none⟩) (by show _ ≠ _; dsimp only; omega) (.slice (some ⟨h5, 0, none⟩) p n))
  have A9 := Lib.hid (A9.out.far (p := ⟨w5.heap.size, 2, none⟩) (by show _ ≠ _; dsimp only; omega) (.slice (some ⟨h5, 0, none⟩) p n))
  have G9 := Lib.hid (G9.out.far (p := ⟨w5.heap.size, 2, none⟩) (.inr (by show _ ≤ w5.heap.size; omega)) (.slice (some ⟨h5, 0, none⟩) p n))
  have O2 := Lib.hid (O2.out.far (p := ⟨w5.heap.size, 2, none⟩) (.inr (by show _ ≤ w5.heap.size; omega)) (.slice (some ⟨h5, 0, none⟩) p n))
  have A11 := Lib.hid (A11.out.far (p := ⟨w5.heap.size, 2, none⟩) (by show _ ≠ _; dsimp only; omega) (.slice (some ⟨h5, 0, none⟩) p n))
  have O3 := Lib.hid (O3.out.far (p := ⟨w5.heap.size, 2, none⟩) (.inr (by show _ ≤ w5.heap.size; omega)) (.slice (some ⟨h5, 0, none⟩) p n))
  have A12 := Lib.hid (A12.out.far (p := ⟨w5.heap.size, 2, none⟩) (by show _ ≠ _; dsimp only; omega) (.slice (some ⟨h5, 0, none⟩) p n))
  have A13 := Lib.hid (A13.out.far (p := ⟨w5.heap.size, 2, none⟩) (by show _ ≠ _; dsimp only; omega) (.slice (some ⟨h5, 0, none⟩) p n))
  have O4 := Lib.hid (O4.out.far (p := ⟨w5.heap.size, 2, none⟩) (.inr (by show _ ≤ w5.heap.size; omega)) (.slice (some ⟨h5, 0, none⟩) p n))
  have O5 := Lib.hid (O5.out.far (p := ⟨w5.heap.size, 2, none⟩) (.inr (by show _ ≤ w5.heap.size; omega)) (.slice (some ⟨h5, 0, none⟩) p n))
  have A14 : Hid (At (W5.setCell ⟨w5.heap.size, 2, none⟩ (.slice (some ⟨h5, 0, none⟩) p n)) w5.heap.size 24 #[.int .i64 n, .int .i64 m, .slice (some ⟨h5, 0, none⟩) p n, .int .i64 0, .int .i64 0]) := Lib.hid (NA.out.set 2 (.slice (some ⟨h5, 0, none⟩) p n))
  have BB := Lib.hid (BB.out.setCell (p := ⟨w5.heap.size, 2, none⟩) (by show _ ≤ w5.heap.size; omega) (.slice (some ⟨h5, 0, none⟩) p n))
  have sz5 : Hid ((W5.setCell ⟨w5.heap.size, 2, none⟩ (.slice (some ⟨h5, 0, none⟩) p n)).heap.size = W5.heap.size) := Lib.hid (by simp [World.setCell])
  clear NA u0 u1 u2 u3 u4 uf s2
  generalize (W5.setCell ⟨w5.heap.size, 2, none⟩ (.slice (some ⟨h5, 0, none⟩) p n)) = X5 at C5 A9 G9 O2 A11 O3 A12 A13 O4 O5 A14 BB sz5 ⊢
  have v5 : W5.heap.size ≤ X5.heap.size := Nat.le_of_eq sz5.out.symm
  clear sz5
  obtain ⟨bx2, hbx2⟩ : ∃ b, decide (cr < (n : Int)) = b := ⟨_, rfl⟩
  obtain ⟨by2, hby2⟩ : ∃ b, decide (cc < (m : Int)) = b := ⟨_, rfl⟩
  obtain ⟨bz2, hbz2⟩ : ∃ b, decide ((ct : Int) ≤ 126) = b := ⟨_, rfl⟩
  obtain ⟨ox, hox⟩ : ∃ o, o = (false && bx2) := ⟨_, rfl⟩
  obtain ⟨oy, hoy⟩ : ∃ o, o = (true && by2) := ⟨_, rfl⟩
  obtain ⟨oz, hoz⟩ : ∃ o, o = (false && bz2) := ⟨_, rfl⟩
  have ez : okB cb = oz := by
    rw [hoz, ← hbz1, ← hbz2, Bool.eq_iff_iff, okB_iff, ← HCT.out]; simp; omega
  have GG9 : Hid (Gr X5 0 X5.heap.size (some ⟨h0, 0, none⟩) n n (blankC n m)) := Lib.hid (G9.out.mono (Nat.zero_le _) (by omega))
  have GG2 : Hid (Gr X5 0 X5.heap.size (some ⟨h2, 0, none⟩) n n (blankC n m)) := Lib.hid (O2.out.mono (Nat.zero_le _) (by omega))
  have GG3 : Hid (Gr X5 0 X5.heap.size (some ⟨h3, 0, none⟩) n n (blankC n m)) := Lib.hid (O3.out.mono (Nat.zero_le _) (by omega))
  have GG4 : Hid (Gr X5 0 X5.heap.size (some ⟨h4, 0, none⟩) n n (setAt (blankC n m) p q cb)) := Lib.hid (O4.out.mono (Nat.zero_le _) (by omega))
  have GG5 : Hid (Gr X5 0 X5.heap.size (some ⟨h5, 0, none⟩) p n ((blankC n m).take p)) := Lib.hid ((O5.out.take p (by omega)).mono (Nat.zero_le _) (by omega))
  have K9 : Hid (∀ W, More X5.heap.size X5 W → Calls Try.prog 17 #[.agg #[.int .i64 n, .int .i64 m, .slice (some ⟨h0, 0, none⟩) n n, .int .i64 0, .int .i64 0]] W fun e w' => e = .returned (.int .i64 0) ∧ Below W.heap.size W w') := Lib.hid fun W h => check_is n m 0 0 _ n n (blankC n m) true (may_blank n m hn1 hn2 hm1 hm2) W HFEW.out (gr_more GG9.out h)
  have K11 : Hid (∀ W, More X5.heap.size X5 W → Calls Try.prog 17 #[.agg #[.int .i64 n, .int .i64 m, .slice (some ⟨h2, 0, none⟩) n n, .int .i64 cr, .int .i64 0]] W fun e w' => e = .returned (.int .i64 (errI ox)) ∧ Below W.heap.size W w') := Lib.hid fun W h => check_is n m cr 0 _ n n (blankC n m) ox (by rw [may_x n m hn1 hn2 hm1 hm2, hbx1, hbx2, hox]) W HFEW.out (gr_more GG2.out h)
  have K12 : Hid (∀ W, More X5.heap.size X5 W → Calls Try.prog 17 #[.agg #[.int .i64 n, .int .i64 m, .slice (some ⟨h3, 0, none⟩) n n, .int .i64 0, .int .i64 cc]] W fun e w' => e = .returned (.int .i64 (errI oy)) ∧ Below W.heap.size W w') := Lib.hid fun W h => check_is n m 0 cc _ n n (blankC n m) oy (by rw [may_y n m hn1 hn2 hm1 hm2, hby1, hby2, hoy]) W HFEW.out (gr_more GG3.out h)
  have K13 : Hid (∀ W, More X5.heap.size X5 W → Calls Try.prog 17 #[.agg #[.int .i64 n, .int .i64 m, .slice (some ⟨h4, 0, none⟩) n n, .int .i64 0, .int .i64 0]] W fun e w' => e = .returned (.int .i64 (errI oz)) ∧ Below W.heap.size W w') := Lib.hid fun W h => check_is n m 0 0 _ n n (setAt (blankC n m) p q cb) oz (by rw [may_z n m hn1 hn2 hm1 hm2 p q hp2 hq2, ez]) W (few_set n m hn2 hm2 p q cb) (gr_more GG4.out h)
  have K14 : Hid (∀ W, More X5.heap.size X5 W → Calls Try.prog 17 #[.agg #[.int .i64 n, .int .i64 m, .slice (some ⟨h5, 0, none⟩) p n, .int .i64 0, .int .i64 0]] W fun e w' => e = .returned (.int .i64 2) ∧ Below W.heap.size W w') := Lib.hid fun W h => check_is n m 0 0 _ p n ((blankC n m).take p) false (may_s n m p hp2) W (few_tk n m hn2 hm2 p) (gr_more GG5.out h)
  have SK : Hid (∀ W, More X5.heap.size X5 W → (W.cell? ⟨w1.heap.size, 0, none⟩ = some (.int .i64 n) ∧ W.cell? ⟨w1.heap.size, 1, none⟩ = some (.int .i64 m) ∧ W.cell? ⟨w1.heap.size, 2, none⟩ = some (.slice (some ⟨h0, 0, none⟩) n n) ∧ W.cell? ⟨w1.heap.size, 3, none⟩ = some (.int .i64 0) ∧ W.cell? ⟨w1.heap.size, 4, none⟩ = some (.int .i64 0)) ∧ ((W.cell? ⟨w2.heap.size, 0, none⟩ = some (.int .i64 n) ∧ W.cell? ⟨w2.heap.size, 1, none⟩ = some (.int .i64 m) ∧ W.cell? ⟨w2.heap.size, 2, none⟩ = some (.slice (some ⟨h2, 0, none⟩) n n) ∧ W.cell? ⟨w2.heap.size, 3, none⟩ = some (.int .i64 cr) ∧ W.cell? ⟨w2.heap.size, 4, none⟩ = some (.int .i64 0)) ∧ (W.cell? ⟨w3.heap.size, 0, none⟩ = some (.int .i64 n) ∧ W.cell? ⟨w3.heap.size, 1, none⟩ = some (.int .i64 m) ∧ W.cell? ⟨w3.heap.size, 2, none⟩ = some (.slice (some ⟨h3, 0, none⟩) n n) ∧ W.cell? ⟨w3.heap.size, 3, none⟩ = some (.int .i64 0) ∧ W.cell? ⟨w3.heap.size, 4, none⟩ = some (.int .i64 cc)) ∧ (W.cell? ⟨w4.heap.size, 0, none⟩ = some (.int .i64 n) ∧ W.cell? ⟨w4.heap.size, 1, none⟩ = some (.int .i64 m) ∧ W.cell? ⟨w4.heap.size, 2, none⟩ = some (.slice (some ⟨h4, 0, none⟩) n n) ∧ W.cell? ⟨w4.heap.size, 3, none⟩ = some (.int .i64 0) ∧ W.cell? ⟨w4.heap.size, 4, none⟩ = some (.int .i64 0)) ∧ (W.cell? ⟨w5.heap.size, 0, none⟩ = some (.int .i64 n) ∧ W.cell? ⟨w5.heap.size, 1, none⟩ = some (.int .i64 m) ∧ W.cell? ⟨w5.heap.size, 2, none⟩ = some (.slice (some ⟨h5, 0, none⟩) p n) ∧ W.cell? ⟨w5.heap.size, 3, none⟩ = some (.int .i64 0) ∧ W.cell? ⟨w5.heap.size, 4, none⟩ = some (.int .i64 0)) ∧ (W.cell? ⟨w.heap.size, 0, none⟩ = some (.int .i64 cr) ∧ W.cell? ⟨w.heap.size, 1, none⟩ = some (.int .i64 cc) ∧ W.cell? ⟨w.heap.size, 2, none⟩ = some (.int .u8 (ct : Int)))) ∧ More X5.heap.size X5 W) := Lib.hid fun W h => ⟨(A9.out.keep h A9.out.lt).five, ⟨(A11.out.keep h A11.out.lt).five, (A12.out.keep h A12.out.lt).five, (A13.out.keep h A13.out.lt).five, (A14.out.keep h A14.out.lt).five, ⟨(C5.out.keep h C5.out.lt).cell 0, (C5.out.keep h C5.out.lt).cell 1, (C5.out.keep h C5.out.lt).cell 2⟩⟩, h⟩
  have M0 : More X5.heap.size X5 X5 := Below.refl _ _
  have S0 := SK.out X5 M0
  have S0' := SK.out X5.drew (more_drew M0)
  have erx : (errI ox == 0) = ox := by cases ox <;> rfl
  have ery : (errI oy == 0) = oy := by cases oy <;> rfl
  have erz : (errI oz == 0) = oz := by cases oz <;> rfl
  clear GG9 GG2 GG3 GG4 GG5 A9 A11 A12 A13 A14 C5 G9 O2 O3 O4 O5 HFEW HCT ez hpn hqm hp2 hq2 hp3 hq3 nn mm zz y1 y2 y3 y4 y5 v2 v3 v4 v5 x2 x3 x4 x5 HZ hn1 hn2 hm1 hm2
  · simp only [Bool.false_and, Bool.true_and] at hox hoy hoz
    subst hox hoy hoz
    go_wp2_with fail
    refine wp_region_noPanic ?_
    refine wp_region_held_drew (S := (fun W => (W.cell? ⟨w1.heap.size, 0, none⟩ = some (.int .i64 n) ∧ W.cell? ⟨w1.heap.size, 1, none⟩ = some (.int .i64 m) ∧ W.cell? ⟨w1.heap.size, 2, none⟩ = some (.slice (some ⟨h0, 0, none⟩) n n) ∧ W.cell? ⟨w1.heap.size, 3, none⟩ = some (.int .i64 0) ∧ W.cell? ⟨w1.heap.size, 4, none⟩ = some (.int .i64 0)) ∧ ((W.cell? ⟨w2.heap.size, 0, none⟩ = some (.int .i64 n) ∧ W.cell? ⟨w2.heap.size, 1, none⟩ = some (.int .i64 m) ∧ W.cell? ⟨w2.heap.size, 2, none⟩ = some (.slice (some ⟨h2, 0, none⟩) n n) ∧ W.cell? ⟨w2.heap.size, 3, none⟩ = some (.int .i64 cr) ∧ W.cell? ⟨w2.heap.size, 4, none⟩ = some (.int .i64 0)) ∧ (W.cell? ⟨w3.heap.size, 0, none⟩ = some (.int .i64 n) ∧ W.cell? ⟨w3.heap.size, 1, none⟩ = some (.int .i64 m) ∧ W.cell? ⟨w3.heap.size, 2, none⟩ = some (.slice (some ⟨h3, 0, none⟩) n n) ∧ W.cell? ⟨w3.heap.size, 3, none⟩ = some (.int .i64 0) ∧ W.cell? ⟨w3.heap.size, 4, none⟩ = some (.int .i64 cc)) ∧ (W.cell? ⟨w4.heap.size, 0, none⟩ = some (.int .i64 n) ∧ W.cell? ⟨w4.heap.size, 1, none⟩ = some (.int .i64 m) ∧ W.cell? ⟨w4.heap.size, 2, none⟩ = some (.slice (some ⟨h4, 0, none⟩) n n) ∧ W.cell? ⟨w4.heap.size, 3, none⟩ = some (.int .i64 0) ∧ W.cell? ⟨w4.heap.size, 4, none⟩ = some (.int .i64 0)) ∧ (W.cell? ⟨w5.heap.size, 0, none⟩ = some (.int .i64 n) ∧ W.cell? ⟨w5.heap.size, 1, none⟩ = some (.int .i64 m) ∧ W.cell? ⟨w5.heap.size, 2, none⟩ = some (.slice (some ⟨h5, 0, none⟩) p n) ∧ W.cell? ⟨w5.heap.size, 3, none⟩ = some (.int .i64 0) ∧ W.cell? ⟨w5.heap.size, 4, none⟩ = some (.int .i64 0)) ∧ (W.cell? ⟨w.heap.size, 0, none⟩ = some (.int .i64 cr) ∧ W.cell? ⟨w.heap.size, 1, none⟩ = some (.int .i64 cc) ∧ W.cell? ⟨w.heap.size, 2, none⟩ = some (.int .u8 (ct : Int)))) ∧ More X5.heap.size X5 W)) (by kernel_rfl) (by (try dsimp only); exact SK.out _ (more_drew (Below.refl _ _))) (fun hHeld => ?_)
    have hM0 : More X5.heap.size X5 X5.drew := more_drew (Below.refl _ _)
    refine held.take (i := 3) (v := .pointer (some ⟨w.heap.size, 0, none⟩)) rfl (by kernel_rfl) (by kernel_rfl) (by kernel_rfl) (fun _ _ _ h => h) (Or.inl ⟨by rfl, fun W hW => by (try dsimp only at hW); go_simp⟩) (by assumption) ?_
    (try simp only [Act.put, List.setIfInBounds_toArray, List.set_cons_zero, List.set_cons_succ])
    refine held.take (i := 4) (v := .int .i64 cr) rfl (by kernel_rfl) (by kernel_rfl) (by kernel_rfl) (fun _ _ _ h => h) (Or.inl ⟨by rfl, fun W hW => by (try dsimp only at hW); go_simp⟩) (by assumption) ?_
    (try simp only [Act.put, List.setIfInBounds_toArray, List.set_cons_zero, List.set_cons_succ])
    refine held.take (i := 5) (v := .bool false) rfl (by kernel_rfl) (by kernel_rfl) (by kernel_rfl) (fun _ _ _ h => h) (Or.inl ⟨by rfl, fun W hW => by (try dsimp only at hW); go_simp⟩) (by assumption) ?_
    (try simp only [Act.put, List.setIfInBounds_toArray, List.set_cons_zero, List.set_cons_succ])
    refine held.take (i := 0) (v := .agg #[.int .i64 n, .int .i64 m, .slice (some ⟨h2, 0, none⟩) n n, .int .i64 cr, .int .i64 0]) rfl (by kernel_rfl) (by kernel_rfl) (by kernel_rfl) (fun _ _ _ h => h) (Or.inl ⟨by rfl, fun W hW => by (try dsimp only at hW); go_simp⟩) (by assumption) ?_
    (try simp only [Act.put, List.setIfInBounds_toArray, List.set_cons_zero, List.set_cons_succ])
    refine held.only (i := 1) (by kernel_rfl) rfl (fun K hK => ?_)
    rw [if_pos (by rfl)]
    go_simp
    go_at_call 17
    (with_reducible refine (K11.out _ hM0).mono ?_)
    rintro e v1 ⟨rfl, hB⟩
    have hM1 := more_trans hM0 hB
    clear hB
    refine hK.out _ _ (by (try dsimp only); exact SK.out _ hM1) (fun hHeld => ?_)
    clear hK K
    (try simp only [Act.put, List.setIfInBounds_toArray, List.set_cons_zero, List.set_cons_succ])
    refine held.take (i := 2) (v := .bool false) rfl (by kernel_rfl) (by kernel_rfl) (by kernel_rfl) (fun _ _ _ h => h) (Or.inl ⟨by rfl, fun W hW => by (try dsimp only at hW); go_simp⟩) (by assumption) ?_
    (try simp only [Act.put, List.setIfInBounds_toArray, List.set_cons_zero, List.set_cons_succ])
    refine held.take (i := 6) (v := .bool false) rfl (by kernel_rfl) (by kernel_rfl) (by kernel_rfl) (fun _ _ _ h => h) (Or.inl ⟨by rfl, fun W hW => by (try dsimp only at hW); go_simp⟩) (by assumption) ?_
    (try simp only [Act.put, List.setIfInBounds_toArray, List.set_cons_zero, List.set_cons_succ])
    refine held.take (i := 7) (v := undef) rfl (by kernel_rfl) (by kernel_rfl) (by kernel_rfl) (fun _ _ _ h => h) (Or.inr ⟨by rfl, rfl⟩) (by assumption) ?_
    (try simp only [Act.put, List.setIfInBounds_toArray, List.set_cons_zero, List.set_cons_succ])
    refine held.take (i := 8) (v := undef) rfl (by kernel_rfl) (by kernel_rfl) (by kernel_rfl) (fun _ _ _ h => h) (Or.inr ⟨by rfl, rfl⟩) (by assumption) ?_
    (try simp only [Act.put, List.setIfInBounds_toArray, List.set_cons_zero, List.set_cons_succ])
    refine held.take (i := 9) (v := undef) rfl (by kernel_rfl) (by kernel_rfl) (by kernel_rfl) (fun _ _ _ h => h) (Or.inr ⟨by rfl, rfl⟩) (by assumption) ?_
    (try simp only [Act.put, List.setIfInBounds_toArray, List.set_cons_zero, List.set_cons_succ])
    refine held.take (i := 10) (v := undef) rfl (by kernel_rfl) (by kernel_rfl) (by kernel_rfl) (fun _ _ _ h => h) (Or.inr ⟨by rfl, rfl⟩) (by assumption) ?_
    (try simp only [Act.put, List.setIfInBounds_toArray, List.set_cons_zero, List.set_cons_succ])
    refine held.take (i := 11) (v := .bool false) rfl (by kernel_rfl) (by kernel_rfl) (by kernel_rfl) (fun _ _ _ h => h) (Or.inl ⟨by rfl, fun W hW => by (try dsimp only at hW); go_simp⟩) (by assumption) ?_
    (try simp only [Act.put, List.setIfInBounds_toArray, List.set_cons_zero, List.set_cons_succ])
    refine held.take (i := 12) (v := .bool true) rfl (by kernel_rfl) (by kernel_rfl) (by kernel_rfl) (fun _ _ _ h => h) (Or.inl ⟨by rfl, fun W hW => by (try dsimp only at hW); go_simp⟩) (by assumption) ?_
    (try simp only [Act.put, List.setIfInBounds_toArray, List.set_cons_zero, List.set_cons_succ])
    refine held.take (i := 13) (v := .bool true) rfl (by kernel_rfl) (by kernel_rfl) (by kernel_rfl) (fun _ _ _ h => h) (Or.inl ⟨by rfl, fun W hW => by (try dsimp only at hW); go_simp⟩) (by assumption) ?_
    (try simp only [Act.put, List.setIfInBounds_toArray, List.set_cons_zero, List.set_cons_succ])
    refine held.take (i := 14) (v := .agg #[.int .i64 n, .int .i64 m, .slice (some ⟨h3, 0, none⟩) n n, .int .i64 0, .int .i64 cc]) rfl (by kernel_rfl) (by kernel_rfl) (by kernel_rfl) (fun _ _ _ h => h) (Or.inl ⟨by rfl, fun W hW => by (try dsimp only at hW); go_simp⟩) (by assumption) ?_
    (try simp only [Act.put, List.setIfInBounds_toArray, List.set_cons_zero, List.set_cons_succ])
    refine held.take (i := 17) (v := .pointer (some ⟨w.heap.size, 1, none⟩)) rfl (by kernel_rfl) (by kernel_rfl) (by kernel_rfl) (fun _ _ _ h => h) (Or.inl ⟨by rfl, fun W hW => by (try dsimp only at hW); go_simp⟩) (by assumption) ?_
    (try simp only [Act.put, List.setIfInBounds_toArray, List.set_cons_zero, List.set_cons_succ])
    refine held.take (i := 18) (v := .int .i64 cc) rfl (by kernel_rfl) (by kernel_rfl) (by kernel_rfl) (fun _ _ _ h => h) (Or.inl ⟨by rfl, fun W hW => by (try dsimp only at hW); go_simp⟩) (by assumption) ?_
    (try simp only [Act.put, List.setIfInBounds_toArray, List.set_cons_zero, List.set_cons_succ])
    refine held.take (i := 19) (v := .bool true) rfl (by kernel_rfl) (by kernel_rfl) (by kernel_rfl) (fun _ _ _ h => h) (Or.inl ⟨by rfl, fun W hW => by (try dsimp only at hW); go_simp⟩) (by assumption) ?_
    (try simp only [Act.put, List.setIfInBounds_toArray, List.set_cons_zero, List.set_cons_succ])
    refine held.only (i := 15) (by kernel_rfl) rfl (fun K hK => ?_)
    rw [if_pos (by rfl)]
    go_simp
    go_at_call 17
    (with_reducible refine (K12.out _ hM1).mono ?_)
    rintro e v2 ⟨rfl, hB⟩
    have hM2 := more_trans hM1 hB
    clear hB
    refine hK.out _ _ (by (try dsimp only); exact SK.out _ hM2) (fun hHeld => ?_)
    clear hK K
    (try simp only [Act.put, List.setIfInBounds_toArray, List.set_cons_zero, List.set_cons_succ])
    refine held.take (i := 16) (v := .bool oy) rfl (by kernel_rfl) (by kernel_rfl) (by kernel_rfl) (fun _ _ _ h => h) (Or.inl ⟨by rfl, fun W hW => by (try dsimp only at hW); go_simp⟩) (by assumption) ?_
    (try simp only [Act.put, List.setIfInBounds_toArray, List.set_cons_zero, List.set_cons_succ])
    refine held.take (i := 20) (v := .bool true) rfl (by kernel_rfl) (by kernel_rfl) (by kernel_rfl) (fun _ _ _ h => h) (Or.inl ⟨by rfl, fun W hW => by (try dsimp only at hW); go_simp⟩) (by assumption) ?_
    (try simp only [Act.put, List.setIfInBounds_toArray, List.set_cons_zero, List.set_cons_succ])
    refine held.take (i := 21) (v := .pointer (some ⟨w.heap.size, 1, none⟩)) rfl (by kernel_rfl) (by kernel_rfl) (by kernel_rfl) (fun _ _ _ h => h) (Or.inl ⟨by rfl, fun W hW => by (try dsimp only at hW); go_simp⟩) (by assumption) ?_
    (try simp only [Act.put, List.setIfInBounds_toArray, List.set_cons_zero, List.set_cons_succ])
    refine held.take (i := 22) (v := .int .i64 cc) rfl (by kernel_rfl) (by kernel_rfl) (by kernel_rfl) (fun _ _ _ h => h) (Or.inl ⟨by rfl, fun W hW => by (try dsimp only at hW); go_simp⟩) (by assumption) ?_
    (try simp only [Act.put, List.setIfInBounds_toArray, List.set_cons_zero, List.set_cons_succ])
    refine held.take (i := 23) (v := .int .i64 m) rfl (by kernel_rfl) (by kernel_rfl) (by kernel_rfl) (fun _ _ _ h => h) (Or.inl ⟨by rfl, fun W hW => by (try dsimp only at hW); go_simp⟩) (by assumption) ?_
    (try simp only [Act.put, List.setIfInBounds_toArray, List.set_cons_zero, List.set_cons_succ])
    refine held.take (i := 24) (v := .bool oy) rfl (by kernel_rfl) (by kernel_rfl) (by kernel_rfl) (fun _ _ _ h => h) (Or.inl ⟨by rfl, fun W hW => by (try dsimp only at hW); go_simp⟩) (by assumption) ?_
    (try simp only [Act.put, List.setIfInBounds_toArray, List.set_cons_zero, List.set_cons_succ])
    refine held.take (i := 25) (v := .bool oy) rfl (by kernel_rfl) (by kernel_rfl) (by kernel_rfl) (fun _ _ _ h => h) (Or.inl ⟨by rfl, fun W hW => by (try dsimp only at hW); go_simp⟩) (by assumption) ?_
    (try simp only [Act.put, List.setIfInBounds_toArray, List.set_cons_zero, List.set_cons_succ])
    refine held.take (i := 26) (v := .bool true) rfl (by kernel_rfl) (by kernel_rfl) (by kernel_rfl) (fun _ _ _ h => h) (Or.inl ⟨by rfl, fun W hW => by (try dsimp only at hW); go_simp⟩) (by assumption) ?_
    (try simp only [Act.put, List.setIfInBounds_toArray, List.set_cons_zero, List.set_cons_succ])
    refine held.take (i := 27) (v := .bool true) rfl (by kernel_rfl) (by kernel_rfl) (by kernel_rfl) (fun _ _ _ h => h) (Or.inl ⟨by rfl, fun W hW => by (try dsimp only at hW); go_simp⟩) (by assumption) ?_
    (try simp only [Act.put, List.setIfInBounds_toArray, List.set_cons_zero, List.set_cons_succ])
    refine held.take (i := 28) (v := .bool true) rfl (by kernel_rfl) (by kernel_rfl) (by kernel_rfl) (fun _ _ _ h => h) (Or.inl ⟨by rfl, fun W hW => by (try dsimp only at hW); go_simp⟩) (by assumption) ?_
    (try simp only [Act.put, List.setIfInBounds_toArray, List.set_cons_zero, List.set_cons_succ])
    refine held.take (i := 29) (v := .agg #[.int .i64 n, .int .i64 m, .slice (some ⟨h4, 0, none⟩) n n, .int .i64 0, .int .i64 0]) rfl (by kernel_rfl) (by kernel_rfl) (by kernel_rfl) (fun _ _ _ h => h) (Or.inl ⟨by rfl, fun W hW => by (try dsimp only at hW); go_simp⟩) (by assumption) ?_
    (try simp only [Act.put, List.setIfInBounds_toArray, List.set_cons_zero, List.set_cons_succ])
    refine held.take (i := 32) (v := .pointer (some ⟨w.heap.size, 2, none⟩)) rfl (by kernel_rfl) (by kernel_rfl) (by kernel_rfl) (fun _ _ _ h => h) (Or.inl ⟨by rfl, fun W hW => by (try dsimp only at hW); go_simp⟩) (by assumption) ?_
    (try simp only [Act.put, List.setIfInBounds_toArray, List.set_cons_zero, List.set_cons_succ])
    refine held.take (i := 33) (v := .int .u8 (ct : Int)) rfl (by kernel_rfl) (by kernel_rfl) (by kernel_rfl) (fun _ _ _ h => h) (Or.inl ⟨by rfl, fun W hW => by (try dsimp only at hW); go_simp⟩) (by assumption) ?_
    (try simp only [Act.put, List.setIfInBounds_toArray, List.set_cons_zero, List.set_cons_succ])
    refine held.take (i := 34) (v := .bool false) rfl (by kernel_rfl) (by kernel_rfl) (by kernel_rfl) (fun _ _ _ h => h) (Or.inl ⟨by rfl, fun W hW => by (try dsimp only at hW); go_simp⟩) (by assumption) ?_
    (try simp only [Act.put, List.setIfInBounds_toArray, List.set_cons_zero, List.set_cons_succ])
    refine held.only (i := 30) (by kernel_rfl) rfl (fun K hK => ?_)
    rw [if_pos (by rfl)]
    go_simp
    go_at_call 17
    (with_reducible refine (K13.out _ hM2).mono ?_)
    rintro e v3 ⟨rfl, hB⟩
    have hM3 := more_trans hM2 hB
    clear hB
    refine hK.out _ _ (by (try dsimp only); exact SK.out _ hM3) (fun hHeld => ?_)
    clear hK K
    (try simp only [Act.put, List.setIfInBounds_toArray, List.set_cons_zero, List.set_cons_succ])
    refine held.take (i := 31) (v := .bool false) rfl (by kernel_rfl) (by kernel_rfl) (by kernel_rfl) (fun _ _ _ h => h) (Or.inl ⟨by rfl, fun W hW => by (try dsimp only at hW); go_simp⟩) (by assumption) ?_
    (try simp only [Act.put, List.setIfInBounds_toArray, List.set_cons_zero, List.set_cons_succ])
    refine held.take (i := 35) (v := .bool false) rfl (by kernel_rfl) (by kernel_rfl) (by kernel_rfl) (fun _ _ _ h => h) (Or.inl ⟨by rfl, fun W hW => by (try dsimp only at hW); go_simp⟩) (by assumption) ?_
    (try simp only [Act.put, List.setIfInBounds_toArray, List.set_cons_zero, List.set_cons_succ])
    refine held.take (i := 36) (v := undef) rfl (by kernel_rfl) (by kernel_rfl) (by kernel_rfl) (fun _ _ _ h => h) (Or.inr ⟨by rfl, rfl⟩) (by assumption) ?_
    (try simp only [Act.put, List.setIfInBounds_toArray, List.set_cons_zero, List.set_cons_succ])
    refine held.take (i := 37) (v := undef) rfl (by kernel_rfl) (by kernel_rfl) (by kernel_rfl) (fun _ _ _ h => h) (Or.inr ⟨by rfl, rfl⟩) (by assumption) ?_
    (try simp only [Act.put, List.setIfInBounds_toArray, List.set_cons_zero, List.set_cons_succ])
    refine held.take (i := 38) (v := undef) rfl (by kernel_rfl) (by kernel_rfl) (by kernel_rfl) (fun _ _ _ h => h) (Or.inr ⟨by rfl, rfl⟩) (by assumption) ?_
    (try simp only [Act.put, List.setIfInBounds_toArray, List.set_cons_zero, List.set_cons_succ])
    refine held.take (i := 39) (v := .bool false) rfl (by kernel_rfl) (by kernel_rfl) (by kernel_rfl) (fun _ _ _ h => h) (Or.inl ⟨by rfl, fun W hW => by (try dsimp only at hW); go_simp⟩) (by assumption) ?_
    (try simp only [Act.put, List.setIfInBounds_toArray, List.set_cons_zero, List.set_cons_succ])
    refine held.take (i := 40) (v := .bool true) rfl (by kernel_rfl) (by kernel_rfl) (by kernel_rfl) (fun _ _ _ h => h) (Or.inl ⟨by rfl, fun W hW => by (try dsimp only at hW); go_simp⟩) (by assumption) ?_
    (try simp only [Act.put, List.setIfInBounds_toArray, List.set_cons_zero, List.set_cons_succ])
    refine held.take (i := 41) (v := .bool true) rfl (by kernel_rfl) (by kernel_rfl) (by kernel_rfl) (fun _ _ _ h => h) (Or.inl ⟨by rfl, fun W hW => by (try dsimp only at hW); go_simp⟩) (by assumption) ?_
    (try simp only [Act.put, List.setIfInBounds_toArray, List.set_cons_zero, List.set_cons_succ])
    refine held.take (i := 42) (v := .bool true) rfl (by kernel_rfl) (by kernel_rfl) (by kernel_rfl) (fun _ _ _ h => h) (Or.inl ⟨by rfl, fun W hW => by (try dsimp only at hW); go_simp⟩) (by assumption) ?_
    (try simp only [Act.put, List.setIfInBounds_toArray, List.set_cons_zero, List.set_cons_succ])
    refine held.take (i := 43) (v := .agg #[.int .i64 n, .int .i64 m, .slice (some ⟨h5, 0, none⟩) p n, .int .i64 0, .int .i64 0]) rfl (by kernel_rfl) (by kernel_rfl) (by kernel_rfl) (fun _ _ _ h => h) (Or.inl ⟨by rfl, fun W hW => by (try dsimp only at hW); go_simp⟩) (by assumption) ?_
    (try simp only [Act.put, List.setIfInBounds_toArray, List.set_cons_zero, List.set_cons_succ])
    refine held.only (i := 44) (by kernel_rfl) rfl (fun K hK => ?_)
    rw [if_pos (by rfl)]
    go_simp
    go_at_call 17
    (with_reducible refine (K14.out _ hM3).mono ?_)
    rintro e v4 ⟨rfl, hB⟩
    have hM4 := more_trans hM3 hB
    clear hB
    refine hK.out _ _ (by (try dsimp only); exact SK.out _ hM4) (fun hHeld => ?_)
    clear hK K
    (try simp only [Act.put, List.setIfInBounds_toArray, List.set_cons_zero, List.set_cons_succ])
    refine held.take (i := 45) (v := .bool true) rfl (by kernel_rfl) (by kernel_rfl) (by kernel_rfl) (fun _ _ _ h => h) (Or.inl ⟨by rfl, fun W hW => by (try dsimp only at hW); go_simp⟩) (by assumption) ?_
    (try simp only [Act.put, List.setIfInBounds_toArray, List.set_cons_zero, List.set_cons_succ])
    refine held.take (i := 46) (v := .bool true) rfl (by kernel_rfl) (by kernel_rfl) (by kernel_rfl) (fun _ _ _ h => h) (Or.inl ⟨by rfl, fun W hW => by (try dsimp only at hW); go_simp⟩) (by assumption) ?_
    (try simp only [Act.put, List.setIfInBounds_toArray, List.set_cons_zero, List.set_cons_succ])
    refine held.take (i := 47) (v := .bool true) rfl (by kernel_rfl) (by kernel_rfl) (by kernel_rfl) (fun _ _ _ h => h) (Or.inl ⟨by rfl, fun W hW => by (try dsimp only at hW); go_simp⟩) (by assumption) ?_
    (try simp only [Act.put, List.setIfInBounds_toArray, List.set_cons_zero, List.set_cons_succ])
    refine held.take (i := 48) (v := .agg #[.int .i64 n, .int .i64 m, .slice (some ⟨h0, 0, none⟩) n n, .int .i64 0, .int .i64 0]) rfl (by kernel_rfl) (by kernel_rfl) (by kernel_rfl) (fun _ _ _ h => h) (Or.inl ⟨by rfl, fun W hW => by (try dsimp only at hW); go_simp⟩) (by assumption) ?_
    (try simp only [Act.put, List.setIfInBounds_toArray, List.set_cons_zero, List.set_cons_succ])
    refine held.only (i := 49) (by kernel_rfl) rfl (fun K hK => ?_)
    rw [if_pos (by rfl)]
    go_simp
    go_at_call 17
    (with_reducible refine (K9.out _ hM4).mono ?_)
    rintro e v5 ⟨rfl, hB⟩
    have hM5 := more_trans hM4 hB
    clear hB
    refine hK.out _ _ (by (try dsimp only); exact SK.out _ hM5) (fun hHeld => ?_)
    clear hK K
    (try simp only [Act.put, List.setIfInBounds_toArray, List.set_cons_zero, List.set_cons_succ])
    refine held.take (i := 50) (v := .bool true) rfl (by kernel_rfl) (by kernel_rfl) (by kernel_rfl) (fun _ _ _ h => h) (Or.inl ⟨by rfl, fun W hW => by (try dsimp only at hW); go_simp⟩) (by assumption) ?_
    (try simp only [Act.put, List.setIfInBounds_toArray, List.set_cons_zero, List.set_cons_succ])
    refine held.take (i := 51) (v := .bool true) rfl (by kernel_rfl) (by kernel_rfl) (by kernel_rfl) (fun _ _ _ h => h) (Or.inl ⟨by rfl, fun W hW => by (try dsimp only at hW); go_simp⟩) (by assumption) ?_
    (try simp only [Act.put, List.setIfInBounds_toArray, List.set_cons_zero, List.set_cons_succ])
    refine held.take (i := 52) (v := .bool true) rfl (by kernel_rfl) (by kernel_rfl) (by kernel_rfl) (fun _ _ _ h => h) (Or.inl ⟨by rfl, fun W hW => by (try dsimp only at hW); go_simp⟩) (by assumption) ?_
    (try simp only [Act.put, List.setIfInBounds_toArray, List.set_cons_zero, List.set_cons_succ])
    refine held.only (i := 53) (by kernel_rfl) rfl (fun K hK => ?_)
    rw [if_pos (by rfl)]
    go_simp
    go_at_call 12
    (with_reducible refine (does_is _).mono ?_)
    rintro e v6 ⟨rfl, hB⟩
    have hM6 := more_trans hM5 hB
    clear hB
    refine hK.out _ _ (by (try dsimp only); exact SK.out _ hM6) (fun hHeld => ?_)
    clear hK K
    (try simp only [Act.put, List.setIfInBounds_toArray, List.set_cons_zero, List.set_cons_succ])
    refine held.take (i := 54) (v := .bool true) rfl (by kernel_rfl) (by kernel_rfl) (by kernel_rfl) (fun _ _ _ h => h) (Or.inl ⟨by rfl, fun W hW => by (try dsimp only at hW); go_simp⟩) (by assumption) ?_
    (try simp only [Act.put, List.setIfInBounds_toArray, List.set_cons_zero, List.set_cons_succ])
    refine held.take (i := 55) (v := .bool true) rfl (by kernel_rfl) (by kernel_rfl) (by kernel_rfl) (fun _ _ _ h => h) (Or.inl ⟨by rfl, fun W hW => by (try dsimp only at hW); go_simp⟩) (by assumption) ?_
    (try simp only [Act.put, List.setIfInBounds_toArray, List.set_cons_zero, List.set_cons_succ])
    refine wpAnyH_done (by kernel_rfl) ?_ _
    refine NoPanic.normal ?_
    have hfin := hM6
    go_wp2
    go_ret
    exact ⟨rfl, BB.out.trans (Below.mono hfin BB.out.size)⟩
end Go.Proofs.Ytaapoinggdempaa.grd
