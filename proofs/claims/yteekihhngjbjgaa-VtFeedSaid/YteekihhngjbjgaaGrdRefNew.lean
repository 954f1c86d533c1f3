/- Grids: New, of the document: byte by byte, row by row. -/
import Derived.Test.YteekihhngjbjgaaGrdRefClone
namespace Go.Proofs.Yteekihhngjbjgaa.grd
open Go.RowKit Go.Lib
set_option linter.unusedVariables false
set_option linter.unusedSimpArgs false
set_option linter.unnecessarySimpa false
set_option linter.unusedSectionVars false

theorem OwnR.far {w w' : World} {lo k : Nat} {v : Value} {ls : List (List UInt8)} (H : OwnR w lo v k ls) (hk : ∀ b, lo ≤ b → b < w.heap.size → w'.heap[b]? = w.heap[b]?) (hs : w.heap.size ≤ w'.heap.size) : OwnR w' lo v k ls := by
  obtain ⟨vs, f, h1, h2, h3⟩ := H
  refine ⟨vs, f, own_same h1 (fun b hb => hk b (h1.lt b hb).1 (h1.lt b hb).2), fun i l hi hl => ?_, h3⟩
  obtain ⟨B, d, a1, a2, a3⟩ := h2 i l hi hl
  refine ⟨B, d, a1, a2, fun hp => ?_⟩
  obtain ⟨b1, b2, b3, cs, b4, b5⟩ := a3 hp
  exact ⟨b1, b2, by omega, cs, b4.same (hk _ b2 b3), b5⟩
theorem map_blank (m : Nat) : (List.replicate m (32 : UInt8)).map grd.u8 = List.replicate m (.int .u8 32) := by rw [List.map_replicate]; rfl
set_option maxHeartbeats 2000000 in
set_option maxRecDepth 100000 in
theorem refNew_no (r c : Int) (h : sized r c = false) (w : World) :
    Calls Try.prog 26 #[.int .i64 r, .int .i64 c] w fun e w' => e = .returned (.tuple #[noGrid, .int .i64 2]) ∧ Below w.heap.size w w' := by
  have C := Lib.hid (fun W => h ▸ refSized_is r c W)
  clear h
  go_enter Try.func26, Try.ntmps26
  go_wp2_with fail
  go_at_call 40
  refine (C.out _).mono ?_
  rintro e w' ⟨rfl, hw⟩
  have hw := hw.symm
  subst hw
  go_wp2
  refine bodyPost_ret (v := .tuple #[noGrid, .int .i64 2]) (by simp [results, Try.results26, go_sem]) rfl ⟨rfl, ?_⟩
  exact (Below.refl _ _).alloc (Nat.le_refl _) _
set_option maxHeartbeats 4000000 in
set_option maxRecDepth 100000 in
theorem refNew_yes (n m : Nat) (hn1 : 2 ≤ n) (hn2 : n ≤ 60) (hm1 : 8 ≤ m) (hm2 : m ≤ 132) (w : World) :
    Calls Try.prog 26 #[.int .i64 n, .int .i64 m] w fun e w' => ∃ A' c', e = .returned (.tuple #[.agg #[.int .i64 n, .int .i64 m, .slice A' n c', .int .i64 0, .int .i64 0], .int .i64 0]) ∧ Own w' w.heap.size w'.heap.size A' n c' (blankC n m) ∧ Below w.heap.size w w' := by
  obtain ⟨i0, hi0, hz0, hz1, hz2'⟩ := info_parts info32
  obtain ⟨j0, hj0, hy0, hy1, hy2⟩ := info_parts info5
  have hml : (1000000 : Nat) ≤ maxLen := by unfold maxLen; omega
  have hsz : sized n m = true := sized_iff.2 (by omega)
  have C := Lib.hid (fun W => hsz ▸ refSized_is n m W)
  clear hsz
  go_enter Try.func26, Try.ntmps26
  go_wp2_with fail
  go_at_call 40
  refine (C.out _).mono ?_
  rintro e w' ⟨rfl, hw⟩
  have hw := hw.symm
  subst hw
  have HN : Hid (At ((w.alloc (.cells #[.int .i64 0, .int .i64 0, .slice none 0 0, .int .i64 0, .int .i64 0] 34)).alloc (.cells #[.int .i64 0, .int .i64 0, .slice none 0 0, .int .i64 0, .int .i64 0] 34)) (w.heap.size + 1) 34 #[.int .i64 0, .int .i64 0, .slice none 0 0, .int .i64 0, .int .i64 0]) := Lib.hid (by
    have := At.new (w.alloc (.cells #[.int .i64 0, .int .i64 0, .slice none 0 0, .int .i64 0, .int .i64 0] 34)) 34 #[.int .i64 0, .int .i64 0, .slice none 0 0, .int .i64 0, .int .i64 0]
    simpa using this)
  have HR := Lib.hid ((At.new w 34 #[.int .i64 0, .int .i64 0, .slice none 0 0, .int .i64 0, .int .i64 0]).alloc (.cells #[.int .i64 0, .int .i64 0, .slice none 0 0, .int .i64 0, .int .i64 0] 34))
  have HBB := Lib.hid (below2 w #[.int .i64 0, .int .i64 0, .slice none 0 0, .int .i64 0, .int .i64 0] #[.int .i64 0, .int .i64 0, .slice none 0 0, .int .i64 0, .int .i64 0] 34 34)
  have hss : ((w.alloc (.cells #[.int .i64 0, .int .i64 0, .slice none 0 0, .int .i64 0, .int .i64 0] 34)).alloc (.cells #[.int .i64 0, .int .i64 0, .slice none 0 0, .int .i64 0, .int .i64 0] 34)).heap.size = w.heap.size + 2 := by simp
  have HSS := Lib.hid hss
  clear hss
  go_wp2_with (refine wpList_storeG rfl (.tmp 6) (.tmp 17) rfl (w.heap.size + 1) n m 0 0 none 0 0 rfl rfl _ HN.out rfl ?_; intro W0 hA0 hBut0)
  have hZ0 : At W0 w.heap.size 34 #[.int .i64 0, .int .i64 0, .slice none 0 0, .int .i64 0, .int .i64 0] := HR.out.same (hBut0.block _ (by omega))
  have hB0 : Below w.heap.size w W0 := HBB.out.trans (hBut0.below (by omega))
  have hs0 : w.heap.size + 2 ≤ W0.heap.size := by rw [hBut0.size, HSS.out]; omega
  clear hBut0 HR HBB HSS HN
  go_loopg [7, 8, 9] n (fun g s7 s8 s9 wr => ∃ (j : Nat) (A : Option Addr) (c : Nat), j ≤ n ∧ n - j ≤ g ∧ s7 = .int .i64 j ∧ Below w.heap.size w wr ∧ w.heap.size + 2 ≤ wr.heap.size ∧ At wr w.heap.size 34 #[.int .i64 0, .int .i64 0, .slice none 0 0, .int .i64 0, .int .i64 0] ∧ At wr (w.heap.size + 1) 34 #[.int .i64 n, .int .i64 m, .slice A j c, .int .i64 0, .int .i64 0] ∧ Hid (OwnR wr (w.heap.size + 2) (.slice A j c) j (blankC n m)))
  case atStart => exact ⟨0, none, 0, Nat.zero_le _, by omega, rfl, hB0, hs0, hZ0, hA0, Lib.hid (OwnR.zero _ _ _)⟩
  case round =>
    obtain ⟨j, A, c, hj, hg, rfl, hB, hsz, hZ, hA, HO⟩ := hrel
    clear hB0 hA0 hZ0 hs0
    obtain ⟨W1, hW1⟩ : ∃ W1, W1 = wr := ⟨_, rfl⟩
    subst hW1
    by_cases hlt : j < n
    · have HA := Lib.hid hA
      have HZ := Lib.hid hZ
      have HB := Lib.hid hB
      clear hA hZ hB
      go_wp2
      go_loopg [8, 9] m (fun g s8 s9 w2 => ∃ k : Nat, k ≤ m ∧ m - k ≤ g ∧ s9 = .int .i64 k ∧ Below W1.heap.size W1 w2 ∧ Hid (w2.ownsRow W1.heap.size 5 1 s8 k (List.replicate k (.int .u8 32))))
      case atStart => exact ⟨0, Nat.zero_le _, by omega, rfl, Below.refl _ _, Lib.hid (World.ownsRow_nil _ _ _ _)⟩
      case round =>
        obtain ⟨k, hk, hg2, rfl, hB2, HO2⟩ := hrel
        have hz2 := hB2.size
        by_cases hkt : k < m
        · have HV : Hid ((wr.alloc (.cells #[.int .u8 32] 5)).ownsRow W1.heap.size 5 1 u8 k (List.replicate k (.int .u8 32))) := Lib.hid (own_keep HO2.out ((Below.refl _ _).alloc (Nat.le_refl _) _))
          have HBA : Hid (Below W1.heap.size W1 (wr.alloc (.cells #[.int .u8 32] 5))) := Lib.hid (hB2.alloc hz2 _)
          have HB2 := Lib.hid hB2
          clear hB2
          go_wp2_with (refine wpList_append_own _ rfl (.tmp 28) (.tmp 29) 39 rfl W1.heap.size 5 j0 (.int .u8 0) 1 1 Try.underlying39 hj0 hy0 hy1 hy2 rfl (by decide) u8 k _ rfl HV.out ⟨wr.heap.size, 0, none⟩ 1 1 [.int .u8 32] rfl rfl (fun q u hq => by
            match q, hq with
            | 0, hq => rw [Go.WideShapes.add_plain]; exact ((At.new wr 5 #[.int .u8 32]).cell 0).trans (by simpa using hq)
            | q + 1, hq => simp at hq) (fun u hu => by rw [List.mem_singleton.1 hu]; rfl) (by omega) (by omega) (by simp; omega) ?_; intro v4 w4 hown4 hgrow4 _)
          have HB4 : Hid (Below W1.heap.size W1 w4) := Lib.hid (HBA.out.grown hgrow4 (by simp; omega) (fun k e => (HV.out.lt k e).1))
          have HO4 : Hid (w4.ownsRow W1.heap.size 5 1 v4 (k + 1) (List.replicate (k + 1) (.int .u8 32))) := Lib.hid (by rw [List.replicate_succ']; exact hown4)
          clear hown4 hgrow4
          go_roundg (m - (k + 1))
          case measure => omega
          case rel => exact ⟨k + 1, by omega, by omega, by go_num, HB4.out, HO4⟩
        · have hkm : k = m := by omega
          subst hkm
          obtain ⟨B1, d1, rfl, _, _⟩ := own_form' HO2.out
          have hA2 := HA.out.keep hB2 HA.out.lt
          have hZ2 := HZ.out.keep hB2 HZ.out.lt
          obtain ⟨vs, f, hv, _, _⟩ := HO.out
          have HV := Lib.hid hv
          have HV3 : Hid ((wr.alloc (.cells #[.slice B1 k d1] 39)).ownsRow (w.heap.size + 2) 39 1 (.slice A j c) j vs) := Lib.hid (own_keep (own_keep hv hB2) ((Below.refl _ _).alloc (Nat.le_refl _) _))
          have a2 : wr.cell? ⟨w.heap.size + 1, 2, none⟩ = some (.slice A j c) := hA2.cell 2
          have hlt2 := hA2.lt
          have a2f := hA2.frozen 2
          have HB2 := Lib.hid hB2
          have HA2 := Lib.hid hA2
          have HZ2 := Lib.hid hZ2
          clear hB2 hA2 hZ2 hv
          go_wp2_with (refine wpList_append_own _ rfl (.tmp 32) (.tmp 34) 32 rfl (w.heap.size + 2) 39 i0 (.slice none 0 0) 1 24 Try.underlying32 hi0 hz0 hz1 hz2' rfl (by decide) (.slice A j c) j vs rfl HV3.out ⟨wr.heap.size, 0, none⟩ 1 1 [.slice B1 k d1] rfl rfl (fun q u hq => by
            match q, hq with
            | 0, hq => rw [Go.WideShapes.add_plain]; exact ((At.new wr 39 #[.slice B1 k d1]).cell 0).trans (by simpa using hq)
            | q + 1, hq => simp at hq) (fun u hu => by rw [List.mem_singleton.1 hu]; rfl) (by omega) (by omega) (by simp; omega) ?_; intro v4 w4 hown4 hgrow4 _; obtain ⟨A4, c4, rfl, _, _⟩ := own_form' hown4; have HB4 : Hid (Below (w.heap.size + 2) W1 w4) := Lib.hid ((HB2.out.mono hsz).trans (((Below.refl (w.heap.size + 2) wr).alloc (by omega) _).grown hgrow4 (by simp; omega) (fun k e => (HV3.out.lt k e).1))); have HA4 := Lib.hid (HA.out.keep HB4.out (by omega)); have a4f := HA4.out.frozen 2; have a4 : w4.cell? ⟨w.heap.size + 1, 2, none⟩ = some (.slice A j c) := HA4.out.cell 2; have HO4 := Lib.hid hown4; have HG4 := Lib.hid hgrow4; clear hown4 hgrow4)
          have HR4 : Hid (OwnR w4 (w.heap.size + 2) (.slice A4 (j + 1) c4) (j + 1) (blankC n k)) := Lib.hid (HO.out.step (x := List.replicate k 32) hsz (by unfold blankC; rw [List.getElem?_replicate, if_pos hlt]) HB2.out (by rw [List.length_replicate, map_blank]; exact HO2.out) HG4.out vs HV.out (by rw [List.length_replicate]; exact HO4.out))
          have hz4 := HB4.out.size
          have K1 := Lib.hid (HA4.out.set 2 (.slice A4 (j + 1) c4))
          have K2 := Lib.hid ((HZ.out.keep HB4.out (by omega)).far (p := ⟨w.heap.size + 1, 2, none⟩) (by show w.heap.size ≠ w.heap.size + 1; omega) (.slice A4 (j + 1) c4))
          have K3 := Lib.hid ((HB.out.trans (HB4.out.mono (by omega))).setCell (p := ⟨w.heap.size + 1, 2, none⟩) (by show w.heap.size ≤ w.heap.size + 1; omega) (.slice A4 (j + 1) c4))
          have K4 : Hid (OwnR (w4.setCell ⟨w.heap.size + 1, 2, none⟩ (.slice A4 (j + 1) c4)) (w.heap.size + 2) (.slice A4 (j + 1) c4) (j + 1) (blankC n k)) := Lib.hid (HR4.out.far (fun b hb _ => Below.heap_setCell _ _ _ _ (by show b ≠ w.heap.size + 1; omega)) (by simp [World.setCell]))
          have K5 : Hid (w.heap.size + 2 ≤ (w4.setCell ⟨w.heap.size + 1, 2, none⟩ (.slice A4 (j + 1) c4)).heap.size) := Lib.hid (by simp [World.setCell]; omega)
          go_roundg (n - (j + 1))
          case measure => omega
          case rel => exact ⟨j + 1, A4, c4, by omega, by omega, by go_num, K3.out, K5.out, K2.out, K1.out, K4⟩
    · have hjn : j = n := by omega
      subst hjn
      obtain ⟨a0, a1, a2, a3, a4⟩ := hA.five
      have HOWN := Lib.hid (HO.out.own (by simp [blankC]))
      have HZ := Lib.hid hZ
      have HB := Lib.hid hB
      clear HO hZ hB
      go_wp2_with (refine wpList_storeG rfl (.tmp 4) (.tmp 37) rfl w.heap.size j m 0 0 A j c rfl rfl _ HZ.out rfl ?_; intro w6 hA6 hBut)
      obtain ⟨c0, c1, c2, c3, c4⟩ := hA6.five
      refine bodyPost_ret (v := .tuple #[.agg #[.int .i64 j, .int .i64 m, .slice A j c, .int .i64 0, .int .i64 0], .int .i64 0]) (by simp [results, Try.results26, go_sem, c0, c1, c2, c3, c4]) rfl ⟨A, c, rfl, ?_, HB.out.trans (hBut.below (Nat.le_refl _))⟩
      have hz6 := hBut.size
      exact (HOWN.out.keep (fun b h1 _ => hBut.block b (by omega))).mono (by omega) (by omega)
end Go.Proofs.Yteekihhngjbjgaa.grd
