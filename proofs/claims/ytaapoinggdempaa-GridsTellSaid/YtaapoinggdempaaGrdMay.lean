/- Grids: the document's May and Check. -/
import Derived.Test.YtaapoinggdempaaGrdCheck
namespace Go.Proofs.Ytaapoinggdempaa.grd
open Go.RowKit Go.Lib
set_option linter.unusedVariables false
set_option linter.unusedSimpArgs false
set_option linter.unnecessarySimpa false
set_option linter.unusedSectionVars false

theorem has4 (R C r k : Int) : hasB R C r k = (!decide (r < 0) && !decide (R ≤ r) && !decide (k < 0) && !decide (C ≤ k)) := by
  rw [Bool.eq_iff_iff]; unfold hasB; simp; omega
set_option maxHeartbeats 4000000 in
set_option maxRecDepth 100000 in
theorem may_no (R C r k : Int) (A : Option Addr) (n c : Nat) (w : World) (b1 b2 b3 b4 b5 b6 : Bool) (h1 : sized R C = b1) (h2 : ((n : Int) == R) = b2) (h3 : decide (r < 0) = b3) (h4 : decide (R ≤ r) = b4) (h5 : decide (k < 0) = b5) (h6 : decide (C ≤ k) = b6)
    (hall : (b1 && b2 && (!b3 && !b4 && !b5 && !b6)) = false) :
    Calls Try.prog 31 #[.agg #[.int .i64 R, .int .i64 C, .slice A n c, .int .i64 r, .int .i64 k]] w fun e w' => e = .returned (.bool false) ∧ Below w.heap.size w w' := by
  have C1 := Lib.hid (fun W => h1 ▸ refSized_is R C W)
  have f2 : ((n : Int) != R) = !b2 := by rw [← h2]; rfl
  have HB1 := fun cs => (Below.refl w.heap.size w).alloc (Nat.le_refl _) (.cells cs 24)
  clear h1
  cases b1
  · clear hall h2 h3 h4 h5 h6 f2
    go_enter Try.func31, Try.ntmps31
    go_wp2_with fail
    go_at_call 27
    refine (C1.out _).mono ?_
    rintro e w' ⟨rfl, rfl⟩
    go_wp2
    go_ret
    exact ⟨rfl, HB1 _⟩
  · cases b2 <;> cases b3 <;> cases b4 <;> cases b5 <;> cases b6
    all_goals
      first
      | (exact absurd hall (by decide))
      | (clear hall
         go_enter Try.func31, Try.ntmps31
         go_wp2_with fail
         go_at_call 27
         refine (C1.out _).mono ?_
         rintro e w' ⟨rfl, rfl⟩
         go_wp2
         go_ret
         exact ⟨rfl, HB1 _⟩)
theorem okRow_len {C : Int} {l : List UInt8} (h : okRow C l = true) : (l.length : Int) = C := (okRow_iff.1 h).1
set_option maxHeartbeats 4000000 in
set_option maxRecDepth 100000 in
theorem may_loop (R C r k : Int) (A : Option Addr) (n c : Nat) (ls : List (List UInt8)) (w : World) (hf : few ls) (h1 : Gr w 0 w.heap.size A n c ls)
    (h2 : sized R C = true) (h3 : (n : Int) = R) (h4 : 0 ≤ r) (h5 : r < R) (h6 : 0 ≤ k) (h7 : k < C) (o : Bool) (ho : ls.all (okRow C) = o) :
    Calls Try.prog 31 #[.agg #[.int .i64 R, .int .i64 C, .slice A n c, .int .i64 r, .int .i64 k]] w fun e w' => e = .returned (.bool o) ∧ Below w.heap.size w w' := by
  have C1 := Lib.hid (fun W => h2 ▸ refSized_is R C W)
  have hsz := sized_iff.1 h2
  obtain ⟨m, hm⟩ : ∃ m : Nat, C = m := ⟨C.toNat, by omega⟩
  have N1 := Lib.hid h1.len
  have H1 := Lib.hid h1
  have HF := Lib.hid hf
  have HE : Hid (o = ls.all (okRow m)) := Lib.hid (by rw [← ho, hm])
  subst hm
  subst h3
  have hn1 : n ≤ 60 := by omega
  have hm1 : m ≤ 132 := by omega
  have e2 : ((n : Int) != (n : Int)) = false := by simp
  have q1 : decide (r < 0) = false := by simp; omega
  have q2 : decide ((n : Int) ≤ r) = false := by simp; omega
  have q3 : decide (k < 0) = false := by simp; omega
  have q4 : decide ((m : Int) ≤ k) = false := by simp; omega
  clear h1 hf ho h2 hsz h4 h5 h6 h7
  go_enter Try.func31, Try.ntmps31
  go_wp2_with fail
  go_at_call 27
  refine (C1.out _).mono ?_
  rintro e w' ⟨rfl, rfl⟩
  clear C1
  go_wp2
  clear q1 q2 q3 q4 e2
  have HB : Hid (Below w.heap.size w (w.alloc (.cells #[.int .i64 n, .int .i64 m, .slice A n c, .int .i64 r, .int .i64 k] 24))) := Lib.hid ((Below.refl _ _).alloc (Nat.le_refl _) _)
  have hA := At.new w 24 #[.int .i64 n, .int .i64 m, .slice A n c, .int .i64 r, .int .i64 k]
  generalize w.alloc (.cells #[.int .i64 n, .int .i64 m, .slice A n c, .int .i64 r, .int .i64 k] 24) = W0 at hA HB ⊢
  have a0 : W0.cell? ⟨w.heap.size, 0, none⟩ = some (.int .i64 n) := hA.cell 0
  have a1 : W0.cell? ⟨w.heap.size, 1, none⟩ = some (.int .i64 m) := hA.cell 1
  have a2 : W0.cell? ⟨w.heap.size, 2, none⟩ = some (.slice A n c) := hA.cell 2
  have G := Lib.hid (H1.out.below HB.out (Nat.le_refl _))
  clear hA H1
  go_loopg [3, 4] n (fun g s3 s4 wr => ∃ j p : Nat, j ≤ n ∧ n - j ≤ g ∧ s3 = .int .i64 j ∧ wr = W0.drewN p ∧ Hid (o = (ls.drop j).all (okRow m)))
  case atStart => exact ⟨0, 0, Nat.zero_le _, by omega, rfl, rfl, HE⟩
  case round =>
    obtain ⟨j, p, hj, hg, rfl, rfl, HS⟩ := hrel
    clear HE
    by_cases hlt : j < n
    · obtain ⟨x, hx⟩ : ∃ x, ls[j]? = some x := ⟨_, List.getElem?_eq_getElem (by rw [← N1.out]; exact hlt)⟩
      obtain ⟨b1, o1, B1, d1, rfl, _, _, g1, _, _, v1⟩ := G.out.at j x hx
      have D := Lib.hid (all_drop (okRow m) ls j x hx)
      obtain ⟨z, hz⟩ : ∃ z, z = x.length := ⟨_, rfl⟩
      rw [← hz] at g1
      have hz1 : z ≤ 20000 := by rw [hz]; exact HF.out.2 x (List.mem_of_getElem? hx)
      have HZ := Lib.hid hz
      have V := Lib.hid v1
      clear v1 hz hx
      by_cases hzm : z = m
      · subst hzm
        have q2 : ((z : Int) != (z : Int)) = false := by simp
        have q3 : ((z : Int) == (z : Int)) = true := by simp
        have HR : Hid (okRow z x = x.all okB) := Lib.hid (by unfold okRow; rw [← HZ.out, decide_eq_true rfl]; rfl)
        go_wp2_with fail
        go_quiet (fail)
        rename_i nq
        go_wp2
        clear q2 q3
        go_loopg [4] z (fun g s4 wr => ∃ i : Nat, i ≤ z ∧ z - i ≤ g ∧ s4 = .int .i64 i ∧ wr = (W0.drewN p).drewN nq ∧ Hid (x.all okB = (x.drop i).all okB))
        case atStart => exact ⟨0, Nat.zero_le _, by omega, rfl, rfl, Lib.hid rfl⟩
        case round =>
          obtain ⟨i, hi, hg2, rfl, rfl, HI⟩ := hrel
          by_cases hilt : i < z
          · obtain ⟨y, hy⟩ : ∃ y, x[i]? = some y := ⟨_, List.getElem?_eq_getElem (by rw [← HZ.out]; exact hilt)⟩
            obtain ⟨b2, o2, rfl, _, _, g2⟩ := VRd.at V.out i y hy
            have DI := Lib.hid (all_drop okB x i y hy)
            have hyl := y.toNat_lt
            obtain ⟨t, ht⟩ : ∃ t : Nat, t = y.toNat := ⟨_, rfl⟩
            rw [← ht] at g2 hyl
            have HT := Lib.hid ht
            clear ht hy
            by_cases hb1 : t < 32
            · have HK : Hid (okB y = false) := Lib.hid (by unfold okB; rw [← HT.out]; exact decide_eq_false (by omega))
              have u1 : decide ((t : Int) < 32) = true := by simp; omega
              clear hb1
              go_wp2
              go_ret
              exact ⟨by rw [HS.out, D.out, HR.out, HI.out, DI.out, HK.out]; rfl, by first | exact below_drewN HB.out _ | exact below_drewN (below_drewN HB.out _) _⟩
            · by_cases hb2 : 126 < t
              · have HK : Hid (okB y = false) := Lib.hid (by unfold okB; rw [← HT.out]; exact decide_eq_false (by omega))
                have u1 : decide ((t : Int) < 32) = false := by simp; omega
                have u2 : decide (126 < (t : Int)) = true := by simp; omega
                clear hb1 hb2
                go_wp2
                go_ret
                exact ⟨by rw [HS.out, D.out, HR.out, HI.out, DI.out, HK.out]; rfl, by first | exact below_drewN HB.out _ | exact below_drewN (below_drewN HB.out _) _⟩
              · have HK : Hid (okB y = true) := Lib.hid (by unfold okB; rw [← HT.out]; exact decide_eq_true (by omega))
                have u1 : decide ((t : Int) < 32) = false := by simp; omega
                have u2 : decide (126 < (t : Int)) = false := by simp; omega
                clear hb1 hb2
                go_wp2
                go_roundg (z - (i + 1))
                case measure => omega
                case rel => exact ⟨i + 1, by omega, by omega, by go_num, by first | rfl | rw [World.drewN_drewN], Lib.hid (by rw [HI.out, DI.out, HK.out]; rfl)⟩
          · have hiz : i = z := by omega
            have HX : Hid (x.all okB = true) := Lib.hid (by rw [HI.out, hiz, HZ.out, List.drop_length]; rfl)
            clear hiz
            go_wp2
            go_roundg (n - (j + 1))
            case measure => omega
            case rel => exact ⟨j + 1, p + nq, by omega, by omega, by go_num, by first | rfl | rw [World.drewN_drewN], Lib.hid (by rw [HS.out, D.out, HR.out, HX.out]; rfl)⟩
      · have q2 : ((z : Int) != (m : Int)) = true := by simp; omega
        have q3 : ((z : Int) == (m : Int)) = false := by simp; omega
        have HR : Hid (okRow m x = false) := Lib.hid (by unfold okRow; rw [← HZ.out, decide_eq_false (by omega)]; rfl)
        clear hzm
        go_wp2_with fail
        go_quiet (fail)
        go_wp2
        go_ret
        exact ⟨by rw [HS.out, D.out, HR.out]; rfl, by first | exact below_drewN HB.out _ | exact below_drewN (below_drewN HB.out _) _⟩
    · have hjn : j = n := by omega
      subst hjn
      go_wp2
      go_ret
      exact ⟨by rw [HS.out, N1.out, List.drop_length]; rfl, below_drewN HB.out _⟩
/-- The document's May. -/
theorem refMay_is (R C r k : Int) (A : Option Addr) (n c : Nat) (ls : List (List UInt8)) (o : Bool) (ho : may ⟨R, C, ls, r, k⟩ = o) (w : World) (hf : few ls) (h1 : Gr w 0 w.heap.size A n c ls) :
    Calls Try.prog 31 #[.agg #[.int .i64 R, .int .i64 C, .slice A n c, .int .i64 r, .int .i64 k]] w fun e w' => e = .returned (.bool o) ∧ Below w.heap.size w w' := by
  subst ho
  have e2 : ((n : Int) == R) = decide ((ls.length : Int) = R) := by rw [← h1.len, Bool.eq_iff_iff]; simp
  cases h : (sized R C && decide ((ls.length : Int) = R) && hasB R C r k) with
  | false =>
    rw [head_no R C r k ls h]
    rw [has4, ← e2] at h
    exact may_no R C r k A n c w _ _ _ _ _ _ rfl rfl rfl rfl rfl rfl h
  | true =>
    rw [head_yes R C r k ls h]
    rw [Bool.and_eq_true, Bool.and_eq_true, has_iff] at h
    obtain ⟨⟨g1, g2⟩, g3, g4, g5, g6⟩ := h
    exact may_loop R C r k A n c ls w hf h1 g1 (by rw [h1.len]; exact of_decide_eq_true g2) g3 g4 g5 g6 _ rfl
set_option maxHeartbeats 1000000 in
set_option maxRecDepth 100000 in
/-- The document's Check. -/
theorem refCheck_is (R C r k : Int) (A : Option Addr) (n c : Nat) (ls : List (List UInt8)) (o : Bool) (ho : may ⟨R, C, ls, r, k⟩ = o) (w : World) (hf : few ls) (h1 : Gr w 0 w.heap.size A n c ls) :
    Calls Try.prog 18 #[.agg #[.int .i64 R, .int .i64 C, .slice A n c, .int .i64 r, .int .i64 k]] w fun e w' => e = .returned (.int .i64 (errI o)) ∧ Below w.heap.size w w' := by
  have HB1 := fun cs => (Below.refl w.heap.size w).alloc (Nat.le_refl _) (.cells cs 24)
  have K := Lib.hid (fun W (h : Gr W 0 W.heap.size A n c ls) => refMay_is R C r k A n c ls o ho W hf h)
  have H := Lib.hid h1
  clear hf h1 ho
  cases o
  all_goals
    go_enter Try.func18, Try.ntmps18
    go_wp2_with fail
    go_at_call 31
    refine (K.out _ ((H.out.below (HB1 _) (Nat.le_refl _)).mono (Nat.le_refl _) (by simp))).mono ?_
    rintro e w' ⟨rfl, hB⟩
    have hB2 := Lib.hid ((HB1 _).trans (hB.mono (by simp)))
    clear hB
    go_wp2
    go_ret
    exact ⟨rfl, hB2.out⟩
end Go.Proofs.Ytaapoinggdempaa.grd
