/- Grids: whether two are the same: the program's answer, the document's, the law's. -/
import Derived.Test.YteekihhngjbjgaaGrdFns
namespace Go.Proofs.Yteekihhngjbjgaa.grd
open Go.RowKit Go.Lib
set_option linter.unusedVariables false
set_option linter.unusedSimpArgs false
set_option linter.unnecessarySimpa false
set_option linter.unusedSectionVars false

theorem B_beq (l m : List UInt8) : ((B l).toList == (B m).toList) = decide (l = m) := by
  rw [Lib.toList_data, Lib.toList_data, list_B, list_B, Bool.eq_iff_iff]; simp
theorem equal_is (lo hi lo' hi' : Nat) (A B' : Option Addr) (c d : Nat) (l m : List UInt8) (k j : Nat) (hk : k = l.length) (hj : j = m.length) (w : World) (h1 : VRd w lo hi A (l.map u8)) (h2 : VRd w lo' hi' B' (m.map u8)) :
    Calls Try.prog 36 #[.slice A k c, .slice B' j d] w fun e w' => e = .returned (.bool (decide (l = m))) ∧ w' = w := by
  subst hk hj
  have c1 := h1.conv (d := c)
  have c2 := h2.conv (d := d)
  have e : decide (l = m) = (l == m) := by rw [Bool.eq_iff_iff]; simp
  rw [e]
  clear h1 h2 e
  go_enter Try.func36, Try.ntmps36
  go_wp2
  go_ret
  exact ⟨rfl, rfl⟩
/-- Whether all rows from one on are the same. -/
def sameFrom (xs ys : List (List UInt8)) (k : Nat) : Prop := xs.take k = ys.take k
theorem take_snoc {α : Type} {xs : List α} {k : Nat} {x : α} (h : xs[k]? = some x) : xs.take (k + 1) = xs.take k ++ [x] := by
  obtain ⟨hk, rfl⟩ := List.getElem?_eq_some_iff.1 h
  exact List.take_succ_eq_append_getElem hk
set_option maxHeartbeats 1000000 in
set_option maxRecDepth 100000 in
theorem equalFunc_is (lo hi lo' hi' : Nat) (A A' : Option Addr) (n m c d : Nat) (xs ys : List (List UInt8)) (w : World) (h1 : Gr w lo hi A n c xs) (h2 : Gr w lo' hi' A' m d ys) :
    Calls Try.prog 35 #[.slice A n c, .slice A' m d, .func (.func 36) #[] #[]] w fun e w' => e = .returned (.bool (decide (xs = ys))) ∧ w' = w := by
  have N1 := Lib.hid h1.len
  have N2 := Lib.hid h2.len
  have m1 := h1.max
  have m2 := h2.max
  unfold maxLen at m1 m2
  have H1 := Lib.hid h1
  have H2 := Lib.hid h2
  clear h1 h2
  by_cases hnm : n = m
  · subst hnm
    go_enter Try.func35, Try.ntmps35
    go_wp2
    go_loopg [17] n (fun g s17 wr => ∃ k : Nat, k ≤ n ∧ n - k ≤ g ∧ s17 = .int .i64 k ∧ wr = w ∧ Hid (xs.take k = ys.take k))
    case atStart => exact ⟨0, Nat.zero_le _, by omega, rfl, rfl, Lib.hid rfl⟩
    case round =>
      obtain ⟨k, hk, hg, rfl, hw, HS⟩ := hrel
      have hw := hw.symm
      subst hw
      by_cases hlt : k < n
      · obtain ⟨x, hx⟩ : ∃ x, xs[k]? = some x := ⟨_, List.getElem?_eq_getElem (by rw [← N1.out]; exact hlt)⟩
        obtain ⟨y, hy⟩ : ∃ y, ys[k]? = some y := ⟨_, List.getElem?_eq_getElem (by rw [← N2.out]; exact hlt)⟩
        obtain ⟨b1, o1, B1, d1, rfl, _, _, g1, _, _, v1⟩ := H1.out.at k x hx
        obtain ⟨b2, o2, B2, d2, rfl, _, _, g2, _, _, v2⟩ := H2.out.at k y hy
        have X := Lib.hid (take_snoc hx)
        have Y := Lib.hid (take_snoc hy)
        obtain ⟨p, hp⟩ : ∃ p, p = x.length := ⟨_, rfl⟩
        obtain ⟨q, hq⟩ : ∃ q, q = y.length := ⟨_, rfl⟩
        rw [← hp] at g1
        rw [← hq] at g2
        obtain ⟨o, ho⟩ : ∃ o, decide (x = y) = o := ⟨_, rfl⟩
        have C := Lib.hid (equal_is lo hi lo' hi' B1 B2 d1 d2 x y p q hp hq w v1 v2)
        rw [ho] at C
        have O := Lib.hid ho
        clear hx hy v1 v2 hp hq ho
        cases o with
        | true =>
          go_wp2_with (go_at_call 36; refine C.out.mono ?_; rintro e w' ⟨rfl, rfl⟩)
          go_roundg (n - (k + 1))
          case measure => omega
          case rel =>
            have e : x = y := of_decide_eq_true O.out
            exact ⟨k + 1, by omega, by omega, by go_num, rfl, Lib.hid (by rw [X.out, Y.out, HS.out, e])⟩
        | false =>
          go_wp2_with (go_at_call 36; refine C.out.mono ?_; rintro e w' ⟨rfl, rfl⟩)
          go_ret
          refine ⟨ret_bool ?_, rfl⟩
          symm
          refine decide_eq_false fun e => of_decide_eq_false O.out ?_
          have := X.out
          rw [e, Y.out] at this
          exact (List.append_inj' this rfl).2 |> fun h => (by injection h with h; exact h.symm)
      · have hkn : k = n := by omega
        subst hkn
        go_wp2
        go_ret
        refine ⟨ret_bool ?_, rfl⟩
        symm
        refine decide_eq_true ?_
        have := HS.out
        rw [List.take_of_length_le (by rw [← N1.out]; exact Nat.le_refl _), List.take_of_length_le (by rw [← N2.out]; exact Nat.le_refl _)] at this
        exact this
  · have hnm' : ¬ (n : Int) = (m : Int) := by omega
    have H : Hid (¬ xs = ys) := Lib.hid (fun e => hnm (by rw [N1.out, N2.out, e]))
    go_enter Try.func35, Try.ntmps35
    go_wp2
    go_ret
    exact ⟨ret_bool (decide_eq_false H.out).symm, rfl⟩

/-- Whether two grids are the same. -/
def sameB (R C r k R' C' r' k' : Int) (xs ys : List (List UInt8)) : Bool := (R == R') && (C == C') && (r == r') && (k == k') && decide (xs = ys)
theorem sameB_self (R C r k : Int) (xs ys : List (List UInt8)) (h : xs = ys) : sameB R C r k R C r k xs ys = true := by unfold sameB; simp [h]
theorem sameB_symm (R C r k R' C' r' k' : Int) (xs ys : List (List UInt8)) : sameB R C r k R' C' r' k' xs ys = sameB R' C' r' k' R C r k ys xs := by
  unfold sameB
  rw [Bool.eq_iff_iff]
  simp only [Bool.and_eq_true, beq_iff_eq, decide_eq_true_eq]
  constructor
  · rintro ⟨⟨⟨⟨h1, h2⟩, h3⟩, h4⟩, h5⟩; exact ⟨⟨⟨⟨h1.symm, h2.symm⟩, h3.symm⟩, h4.symm⟩, h5.symm⟩
  · rintro ⟨⟨⟨⟨h1, h2⟩, h3⟩, h4⟩, h5⟩; exact ⟨⟨⟨⟨h1.symm, h2.symm⟩, h3.symm⟩, h4.symm⟩, h5.symm⟩
abbrev gv (R C : Int) (A : Option Addr) (n c : Nat) (r k : Int) : Array Value := #[.int .i64 R, .int .i64 C, .slice A n c, .int .i64 r, .int .i64 k]
theorem below2 (w : World) (cs cs' : Array Value) (t t' : TypeId) : Below w.heap.size w ((w.alloc (.cells cs t)).alloc (.cells cs' t')) := ((Below.refl _ _).alloc (Nat.le_refl _) _).alloc (by simp) _
set_option maxHeartbeats 2000000 in
set_option maxRecDepth 100000 in
/-- The program's Same. -/
theorem same_is (R C r k R' C' r' k' : Int) (A A' : Option Addr) (n m c d : Nat) (xs ys : List (List UInt8)) (o : Bool) (ho : sameB R C r k R' C' r' k' xs ys = o) (w : World) (h1 : Gr w 0 w.heap.size A n c xs) (h2 : Gr w 0 w.heap.size A' m d ys) :
    Calls Try.prog 20 #[.agg #[.int .i64 R, .int .i64 C, .slice A n c, .int .i64 r, .int .i64 k], .agg #[.int .i64 R', .int .i64 C', .slice A' m d, .int .i64 r', .int .i64 k']] w fun e w' => e = .returned (.bool o) ∧ Below w.heap.size w w' := by
  have H1 := Lib.hid h1
  have H2 := Lib.hid h2
  clear h1 h2
  subst ho
  unfold sameB
  generalize hx : decide (xs = ys) = q
  have HX := Lib.hid hx
  clear hx
  have HB := fun cs cs' => below2 w cs cs' 34 34
  have H : ∀ b1 b2 b3 b4 : Bool, (R == R') = b1 → (C == C') = b2 → (r == r') = b3 → (k == k') = b4 → Calls Try.prog 20 #[.agg #[.int .i64 R, .int .i64 C, .slice A n c, .int .i64 r, .int .i64 k], .agg #[.int .i64 R', .int .i64 C', .slice A' m d, .int .i64 r', .int .i64 k']] w fun e w' => e = .returned (.bool (b1 && b2 && b3 && b4 && q)) ∧ Below w.heap.size w w' := by
    intro b1 b2 b3 b4 e1 e2 e3 e4
    by_cases hall : b1 = true ∧ b2 = true ∧ b3 = true ∧ b4 = true
    · obtain ⟨rfl, rfl, rfl, rfl⟩ := hall
      go_enter Try.func20, Try.ntmps20
      go_wp2_with fail
      go_at_call 35
      refine (equalFunc_is 0 w.heap.size 0 w.heap.size A A' n m c d xs ys _ (H1.out.below (HB _ _) (Nat.le_refl _)) (H2.out.below (HB _ _) (Nat.le_refl _))).mono ?_
      rw [HX.out]
      rintro e w' ⟨rfl, rfl⟩
      go_wp2
      go_ret
      exact ⟨rfl, HB _ _⟩
    · cases b1
      · clear hall
        go_enter Try.func20, Try.ntmps20
        go_wp2
        go_ret
        exact ⟨rfl, HB _ _⟩
      · cases b2
        · clear hall
          go_enter Try.func20, Try.ntmps20
          go_wp2
          go_ret
          exact ⟨rfl, HB _ _⟩
        · cases b3
          · clear hall
            go_enter Try.func20, Try.ntmps20
            go_wp2
            go_ret
            exact ⟨rfl, HB _ _⟩
          · cases b4
            · clear hall
              go_enter Try.func20, Try.ntmps20
              go_wp2
              go_ret
              exact ⟨rfl, HB _ _⟩
            · exact absurd ⟨rfl, rfl, rfl, rfl⟩ hall
  exact H _ _ _ _ rfl rfl rfl rfl
set_option maxHeartbeats 4000000 in
set_option maxRecDepth 100000 in
/-- The document's Same. -/
theorem refSame_is (R C r kk R' C' r' k' : Int) (A A' : Option Addr) (n m c d : Nat) (xs ys : List (List UInt8)) (o : Bool) (ho : sameB R C r kk R' C' r' k' xs ys = o) (w : World) (h1 : Gr w 0 w.heap.size A n c xs) (h2 : Gr w 0 w.heap.size A' m d ys) :
    Calls Try.prog 17 #[.agg #[.int .i64 R, .int .i64 C, .slice A n c, .int .i64 r, .int .i64 kk], .agg #[.int .i64 R', .int .i64 C', .slice A' m d, .int .i64 r', .int .i64 k']] w fun e w' => e = .returned (.bool o) ∧ Below w.heap.size w w' := by
  have N1 := Lib.hid h1.len
  have N2 := Lib.hid h2.len
  have m1 := h1.max
  have m2 := h2.max
  unfold maxLen at m1 m2
  have H1 := Lib.hid h1
  have H2 := Lib.hid h2
  clear h1 h2
  subst ho
  unfold sameB
  generalize hx : decide (xs = ys) = q
  have HX := Lib.hid hx
  clear hx
  have HB := fun cs cs' => below2 w cs cs' 34 34
  have H : ∀ b1 b2 b3 b4 : Bool, (R == R') = b1 → (C == C') = b2 → (r == r') = b3 → (kk == k') = b4 → Calls Try.prog 17 #[.agg #[.int .i64 R, .int .i64 C, .slice A n c, .int .i64 r, .int .i64 kk], .agg #[.int .i64 R', .int .i64 C', .slice A' m d, .int .i64 r', .int .i64 k']] w fun e w' => e = .returned (.bool (b1 && b2 && b3 && b4 && q)) ∧ Below w.heap.size w w' := by
    intro b1 b2 b3 b4 e1 e2 e3 e4
    have f1 : (R != R') = !b1 := by rw [← e1]; rfl
    have f2 : (C != C') = !b2 := by rw [← e2]; rfl
    have f3 : (r != r') = !b3 := by rw [← e3]; rfl
    have f4 : (kk != k') = !b4 := by rw [← e4]; rfl
    by_cases hall : b1 = true ∧ b2 = true ∧ b3 = true ∧ b4 = true
    · obtain ⟨rfl, rfl, rfl, rfl⟩ := hall
      by_cases hnm : n = m
      · subst hnm
        go_enter Try.func17, Try.ntmps17
        go_wp2
        have HBB := Lib.hid (HB #[.int .i64 R, .int .i64 C, .slice A n c, .int .i64 r, .int .i64 kk] #[.int .i64 R', .int .i64 C', .slice A' n d, .int .i64 r', .int .i64 k'])
        clear e1 e2 e3 e4 f1 f2 f3 f4 HB
        have a1 : ((w.alloc (.cells #[.int .i64 R, .int .i64 C, .slice A n c, .int .i64 r, .int .i64 kk] 34)).alloc (.cells #[.int .i64 R', .int .i64 C', .slice A' n d, .int .i64 r', .int .i64 k'] 34)).cell? ⟨w.heap.size, 2, none⟩ = some (.slice A n c) := ((At.new w _ _).alloc _).cell 2
        have a2 : ((w.alloc (.cells #[.int .i64 R, .int .i64 C, .slice A n c, .int .i64 r, .int .i64 kk] 34)).alloc (.cells #[.int .i64 R', .int .i64 C', .slice A' n d, .int .i64 r', .int .i64 k'] 34)).cell? ⟨w.heap.size + 1, 2, none⟩ = some (.slice A' n d) := by
          have := (At.new (w.alloc (.cells #[.int .i64 R, .int .i64 C, .slice A n c, .int .i64 r, .int .i64 kk] 34)) 34 #[.int .i64 R', .int .i64 C', .slice A' n d, .int .i64 r', .int .i64 k']).cell 2
          simpa using this
        generalize (w.alloc (.cells #[.int .i64 R, .int .i64 C, .slice A n c, .int .i64 r, .int .i64 kk] 34)).alloc (.cells #[.int .i64 R', .int .i64 C', .slice A' n d, .int .i64 r', .int .i64 k'] 34) = W0 at a1 a2 HBB ⊢
        have G1 := Lib.hid (H1.out.below HBB.out (Nat.le_refl _))
        have G2 := Lib.hid (H2.out.below HBB.out (Nat.le_refl _))
        go_loopg [5] n (fun g s5 wr => ∃ k p : Nat, k ≤ n ∧ n - k ≤ g ∧ s5 = .int .i64 k ∧ wr = W0.drewN p ∧ Hid (xs.take k = ys.take k))
        case atStart => exact ⟨0, 0, Nat.zero_le _, by omega, rfl, rfl, Lib.hid rfl⟩
        case round =>
          obtain ⟨k, p, hk, hg, rfl, rfl, HS⟩ := hrel
          by_cases hlt : k < n
          · obtain ⟨x, hx⟩ : ∃ x, xs[k]? = some x := ⟨_, List.getElem?_eq_getElem (by rw [← N1.out]; exact hlt)⟩
            obtain ⟨y, hy⟩ : ∃ y, ys[k]? = some y := ⟨_, List.getElem?_eq_getElem (by rw [← N2.out]; exact hlt)⟩
            obtain ⟨b1, o1, B1, d1, rfl, _, _, g1, _, _, v1⟩ := G1.out.at k x hx
            obtain ⟨b2, o2, B2, d2, rfl, _, _, g2, _, _, v2⟩ := G2.out.at k y hy
            have X := Lib.hid (take_snoc hx)
            have Y := Lib.hid (take_snoc hy)
            have c1 : ∀ q, (convert 39 9 (.slice B1 x.length d1)).run Try.prog (W0.drewN q) = .ok (.string (B x)) (W0.drewN q) := fun q => VRd.conv (w := W0.drewN q) v1
            have c2 : ∀ q, (convert 39 9 (.slice B2 y.length d2)).run Try.prog (W0.drewN q) = .ok (.string (B y)) (W0.drewN q) := fun q => VRd.conv (w := W0.drewN q) v2
            clear hx hy v1 v2
            generalize hp : x.length = p1 at g1 c1
            generalize hq : y.length = q1 at g2 c2
            clear hp hq
            by_cases hxy : x = y
            · have hxy' : (x == y) = true := by simp [hxy]
              have HXY := Lib.hid hxy
              clear hxy
              go_wp2_with fail
              go_quiet (fail)
              rename_i nq
              go_wp2
              go_roundg (n - (k + 1))
              case measure => omega
              case rel => exact ⟨k + 1, p + nq, by omega, by omega, by go_num, rfl, Lib.hid (by rw [X.out, Y.out, HS.out, HXY.out])⟩
            · have hxy' : (x == y) = false := by simp [hxy]
              have HXY := Lib.hid hxy
              clear hxy
              go_wp2_with fail
              go_quiet (fail)
              go_wp2
              go_ret
              have hq0 : q = false := by
                rw [← HX.out]
                refine decide_eq_false fun e => HXY.out ?_
                have := X.out
                rw [e, Y.out] at this
                exact (List.append_inj' this rfl).2 |> fun h => (by injection h with h; exact h.symm)
              exact ⟨by rw [hq0]; rfl, below_drewN (below_drewN (HBB.out) _) _⟩
          · have hkn : k = n := by omega
            subst hkn
            go_wp2
            go_ret
            have hq0 : q = true := by
              rw [← HX.out]
              refine decide_eq_true ?_
              have := HS.out
              rw [List.take_of_length_le (by rw [← N1.out]; exact Nat.le_refl _), List.take_of_length_le (by rw [← N2.out]; exact Nat.le_refl _)] at this
              exact this
            exact ⟨by rw [hq0]; rfl, below_drewN (HBB.out) _⟩
      · have hnm' : ((n : Int) != (m : Int)) = true := by simp; omega
        have hq0 : q = false := by rw [← HX.out]; exact decide_eq_false fun e => hnm (by rw [N1.out, N2.out, e])
        subst hq0
        clear hnm
        go_enter Try.func17, Try.ntmps17
        go_wp2
        go_ret
        exact ⟨rfl, HB _ _⟩
    · cases b1
      · clear hall
        go_enter Try.func17, Try.ntmps17
        go_wp2
        go_ret
        exact ⟨rfl, HB _ _⟩
      · cases b2
        · clear hall
          go_enter Try.func17, Try.ntmps17
          go_wp2
          go_ret
          exact ⟨rfl, HB _ _⟩
        · cases b3
          · clear hall
            go_enter Try.func17, Try.ntmps17
            go_wp2
            go_ret
            exact ⟨rfl, HB _ _⟩
          · cases b4
            · clear hall
              go_enter Try.func17, Try.ntmps17
              go_wp2
              go_ret
              exact ⟨rfl, HB _ _⟩
            · exact absurd ⟨rfl, rfl, rfl, rfl⟩ hall
  exact H _ _ _ _ rfl rfl rfl rfl
end Go.Proofs.Yteekihhngjbjgaa.grd
