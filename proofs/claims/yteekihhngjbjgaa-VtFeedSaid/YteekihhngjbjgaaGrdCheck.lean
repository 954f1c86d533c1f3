/- Grids: whether one may be: the program's Check, the document's. -/
import Derived.Test.YteekihhngjbjgaaGrdFns
namespace Go.Proofs.Yteekihhngjbjgaa.grd
open Go.RowKit Go.Lib
set_option linter.unusedVariables false
set_option linter.unusedSimpArgs false
set_option linter.unnecessarySimpa false
set_option linter.unusedSectionVars false

def errI (b : Bool) : Int := if b then 0 else 2
theorem head_no (R C r k : Int) (ls : List (List UInt8)) (h : (sized R C && decide ((ls.length : Int) = R) && hasB R C r k) = false) : may ⟨R, C, ls, r, k⟩ = false := by
  unfold may; rw [h]; rfl
theorem head_yes (R C r k : Int) (ls : List (List UInt8)) (h : (sized R C && decide ((ls.length : Int) = R) && hasB R C r k) = true) : may ⟨R, C, ls, r, k⟩ = ls.all (okRow C) := by
  unfold may; rw [h]; rfl
theorem all_drop {α : Type} (p : α → Bool) (l : List α) (k : Nat) (x : α) (h : l[k]? = some x) : (l.drop k).all p = (p x && (l.drop (k + 1)).all p) := by
  obtain ⟨hk, rfl⟩ := List.getElem?_eq_some_iff.1 h
  rw [List.drop_eq_getElem_cons hk]; rfl
set_option maxHeartbeats 4000000 in
set_option maxRecDepth 100000 in
/-- The program's Check. -/
theorem check_is (R C r k : Int) (A : Option Addr) (n c : Nat) (ls : List (List UInt8)) (o : Bool) (ho : may ⟨R, C, ls, r, k⟩ = o) (w : World) (hf : few ls) (h1 : Gr w 0 w.heap.size A n c ls) :
    Calls Try.prog 19 #[.agg #[.int .i64 R, .int .i64 C, .slice A n c, .int .i64 r, .int .i64 k]] w fun e w' => e = .returned (.int .i64 (errI o)) ∧ Below w.heap.size w w' := by
  have N1 := Lib.hid h1.len
  have m1 : n ≤ 200 := by have := hf.1; have := h1.len; omega
  have H1 := Lib.hid h1
  have HO := Lib.hid ho
  have HF := Lib.hid hf
  clear h1 ho hf
  obtain ⟨b1, hb1⟩ : ∃ b, sized R C = b := ⟨_, rfl⟩
  obtain ⟨b2, hb2⟩ : ∃ b, decide ((n : Int) = R) = b := ⟨_, rfl⟩
  obtain ⟨b3, hb3⟩ : ∃ b, hasB R C r k = b := ⟨_, rfl⟩
  have C1 := Lib.hid (fun W => hb1 ▸ mayBe_is R C W)
  have C2 := Lib.hid (fun W => hb3 ▸ has_is R C r k (.slice A n c) r k W)
  have K1 := Lib.hid hb1
  have K3 := Lib.hid hb3
  have K2 : Hid (decide ((ls.length : Int) = R) = b2) := Lib.hid (by rw [← N1.out]; exact hb2)
  have e2 : ((n : Int) == R) = b2 := by rw [← hb2, Bool.eq_iff_iff]; simp
  have f2 : ((n : Int) != R) = !b2 := by rw [← e2]; rfl
  clear hb1 hb2 hb3
  by_cases hall : b1 = true ∧ b2 = true ∧ b3 = true
  · obtain ⟨rfl, rfl, rfl⟩ := hall
    have HE : Hid (o = ls.all (okRow C)) := Lib.hid (by rw [← HO.out]; exact head_yes R C r k ls (by rw [K1.out, K2.out, K3.out]; rfl))
    clear HO K1 K2 K3
    go_enter Try.func19, Try.ntmps19
    go_wp2_with fail
    go_at_call 31
    refine (C1.out _).mono ?_
    rintro e w' ⟨rfl, rfl⟩
    clear C1
    go_wp2_with fail
    go_at_call 32
    refine (C2.out _).mono ?_
    rintro e W0 ⟨rfl, hB⟩
    clear C2 e2 f2
    have hA : At W0 w.heap.size 34 #[.int .i64 R, .int .i64 C, .slice A n c, .int .i64 r, .int .i64 k] := (At.new w _ _).keep hB (by simp)
    have HB : Hid (Below w.heap.size w W0) := Lib.hid (((Below.refl _ _).alloc (Nat.le_refl _) _).trans (hB.mono (by simp)))
    have a1 : W0.cell? ⟨w.heap.size, 1, none⟩ = some (.int .i64 C) := hA.cell 1
    have a2 : W0.cell? ⟨w.heap.size, 2, none⟩ = some (.slice A n c) := hA.cell 2
    have G := Lib.hid (H1.out.below HB.out (Nat.le_refl _))
    clear hA hB H1
    go_wp2
    go_loopg [31] n (fun g s31 wr => ∃ j : Nat, j ≤ n ∧ n - j ≤ g ∧ s31 = .int .i64 j ∧ wr = W0 ∧ Hid (o = (ls.drop j).all (okRow C)))
    case atStart => exact ⟨0, Nat.zero_le _, by omega, rfl, rfl, HE⟩
    case round =>
      obtain ⟨j, hj, hg, rfl, hw, HS⟩ := hrel
      have hw := hw.symm
      subst hw
      clear HE
      by_cases hlt : j < n
      · obtain ⟨x, hx⟩ : ∃ x, ls[j]? = some x := ⟨_, List.getElem?_eq_getElem (by rw [← N1.out]; exact hlt)⟩
        obtain ⟨b1, o1, B1, d1, rfl, _, _, g1, _, _, v1⟩ := G.out.at j x hx
        have D := Lib.hid (all_drop (okRow C) ls j x hx)
        have hxl : x.length ≤ 20000 := HF.out.2 x (List.mem_of_getElem? hx)
        obtain ⟨p, hp⟩ : ∃ p, p = x.length := ⟨_, rfl⟩
        rw [← hp] at g1 hxl
        have CT := Lib.hid (fun W (h : VRd W 0 w.heap.size B1 (x.map u8)) => contains_is 0 w.heap.size B1 d1 x p hp (by omega) W h)
        have V := Lib.hid v1
        have HP := Lib.hid hp
        clear v1 hp hx
        by_cases hpc : (p : Int) = C
        · have q1 : ((p : Int) == C) = true := by simp [hpc]
          have q2 : ((p : Int) != C) = false := by simp [hpc]
          have HPC := Lib.hid hpc
          clear hpc
          obtain ⟨z, hz⟩ : ∃ z, x.all okB = z := ⟨_, rfl⟩
          have HZ := Lib.hid hz
          clear hz
          have HR : Hid (okRow C x = z) := Lib.hid (by unfold okRow; rw [HZ.out, ← HP.out, decide_eq_true HPC.out]; rfl)
          cases z with
          | true =>
            go_wp2_with fail
            go_at_call 33
            refine (CT.out _ V.out).mono ?_
            rw [HZ.out]
            rintro e w' ⟨rfl, rfl⟩
            go_wp2
            go_roundg (n - (j + 1))
            case measure => omega
            case rel => exact ⟨j + 1, by omega, by omega, by go_num, rfl, Lib.hid (by rw [HS.out, D.out, HR.out]; rfl)⟩
          | false =>
            go_wp2_with fail
            go_at_call 33
            refine (CT.out _ V.out).mono ?_
            rw [HZ.out]
            rintro e w' ⟨rfl, rfl⟩
            go_wp2
            go_ret
            exact ⟨by rw [HS.out, D.out, HR.out]; rfl, HB.out⟩
        · have q1 : ((p : Int) == C) = false := by simp [hpc]
          have q2 : ((p : Int) != C) = true := by simp [hpc]
          have HR : Hid (okRow C x = false) := Lib.hid (by unfold okRow; rw [← HP.out, decide_eq_false hpc]; rfl)
          clear hpc
          go_wp2
          go_ret
          exact ⟨by rw [HS.out, D.out, HR.out]; rfl, HB.out⟩
      · have hjn : j = n := by omega
        subst hjn
        go_wp2
        go_ret
        exact ⟨by rw [HS.out, N1.out, List.drop_length]; rfl, HB.out⟩
  · have HE : Hid (o = false) := Lib.hid (by
      rw [← HO.out]
      refine head_no R C r k ls ?_
      rw [K1.out, K2.out, K3.out]
      cases b1 <;> cases b2 <;> cases b3 <;> first | rfl | exact absurd ⟨rfl, rfl, rfl⟩ hall)
    clear HO K1 K2 K3
    have HB1 := fun cs => (Below.refl w.heap.size w).alloc (Nat.le_refl _) (.cells cs 34)
    cases b1
    · clear hall
      go_enter Try.func19, Try.ntmps19
      go_wp2_with fail
      go_at_call 31
      refine (C1.out _).mono ?_
      rintro e w' ⟨rfl, rfl⟩
      go_wp2
      go_ret
      exact ⟨by rw [HE.out]; rfl, HB1 _⟩
    · cases b2
      · clear hall
        go_enter Try.func19, Try.ntmps19
        go_wp2_with fail
        go_at_call 31
        refine (C1.out _).mono ?_
        rintro e w' ⟨rfl, rfl⟩
        go_wp2
        go_ret
        exact ⟨by rw [HE.out]; rfl, HB1 _⟩
      · cases b3
        · clear hall
          go_enter Try.func19, Try.ntmps19
          go_wp2_with fail
          go_at_call 31
          refine (C1.out _).mono ?_
          rintro e w' ⟨rfl, rfl⟩
          go_wp2_with fail
          go_at_call 32
          refine (C2.out _).mono ?_
          rintro e W0 ⟨rfl, hB⟩
          have hB2 := Lib.hid ((HB1 _).trans (hB.mono (by simp)))
          clear hB
          go_wp2
          go_ret
          exact ⟨by rw [HE.out]; rfl, hB2.out⟩
        · exact absurd ⟨rfl, rfl, rfl⟩ hall
end Go.Proofs.Yteekihhngjbjgaa.grd
