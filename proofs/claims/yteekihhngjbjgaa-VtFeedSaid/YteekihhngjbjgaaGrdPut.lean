/- Grids: Put, of the program. -/
import Derived.Test.YteekihhngjbjgaaGrdClone
import Derived.Test.YteekihhngjbjgaaGrdCheck
namespace Go.Proofs.Yteekihhngjbjgaa.grd
open Go.RowKit Go.Lib
set_option linter.unusedVariables false
set_option linter.unusedSimpArgs false
set_option linter.unnecessarySimpa false
set_option linter.unusedSectionVars false

theorem fresh {w w' : World} {X Y : Array Value} {T T' : TypeId} (hB : Below ((w.alloc (.cells X T)).alloc (.cells Y T')).heap.size ((w.alloc (.cells X T)).alloc (.cells Y T')) w') :
    At w' w.heap.size T X ∧ At w' (w.heap.size + 1) T' Y ∧ Below w.heap.size w w' ∧ w.heap.size + 2 ≤ w'.heap.size := by
  have hs0 : ((w.alloc (.cells X T)).alloc (.cells Y T')).heap.size = w.heap.size + 2 := by simp
  have hs1 : (w.alloc (.cells X T)).heap.size = w.heap.size + 1 := by simp
  have hz := hB.size
  refine ⟨At.keep ((At.new w T X).alloc (.cells Y T')) hB (by omega), ?_, (below2 w X Y T T').trans (hB.mono (by omega)), by omega⟩
  have := At.keep (At.new (w.alloc (.cells X T)) T' Y) hB (by omega)
  rwa [hs1] at this
/-- What stands behind Put's beginning: the grid that came in, the one that goes out, the clone. -/
structure PutAt (w w2 : World) (g9 c' n lo hi : Nat) (A' : Option Addr) (R C r k : Int) (A : Option Addr) (c : Nat) (ls : List (List UInt8)) : Prop where
  inn : At w2 w.heap.size 34 #[.int .i64 R, .int .i64 C, .slice A n c, .int .i64 r, .int .i64 k]
  out : At w2 (w.heap.size + 1) 34 #[.int .i64 0, .int .i64 0, .slice none 0 0, .int .i64 0, .int .i64 0]
  cl : At w2 g9 34 #[.int .i64 R, .int .i64 C, .slice A' n c', .int .i64 r, .int .i64 k]
  own : Own w2 lo hi A' n c' ls
  lo2 : w.heap.size + 2 ≤ lo
  lo9 : w.heap.size + 2 ≤ g9
  hi9 : hi ≤ g9
  below : Below w.heap.size w w2
theorem PutAt.keep {w w2 w3 : World} {g9 c' n lo hi : Nat} {A' : Option Addr} {R C r k : Int} {A : Option Addr} {c : Nat} {ls : List (List UInt8)} (H : PutAt w w2 g9 c' n lo hi A' R C r k A c ls) (hB : Below w2.heap.size w2 w3) : PutAt w w3 g9 c' n lo hi A' R C r k A c ls := by
  have h9 := H.cl.lt
  have := H.hi9
  exact ⟨H.inn.keep hB H.inn.lt, H.out.keep hB H.out.lt, H.cl.keep hB h9, H.own.below hB (by omega), H.lo2, H.lo9, H.hi9, H.below.trans (hB.mono (by have := H.below.size; omega))⟩
/-- Behind the clone: laid into a block of its own. -/
theorem PutAt.mk' {w w1 w2 : World} {c' n : Nat} {A' : Option Addr} {R C r k : Int} {A : Option Addr} {c : Nat} {ls : List (List UInt8)} {X Y Z : Array Value}
    (hX : X = #[.int .i64 R, .int .i64 C, .slice A n c, .int .i64 r, .int .i64 k]) (hY : Y = #[.int .i64 0, .int .i64 0, .slice none 0 0, .int .i64 0, .int .i64 0])
    (hB : Below ((w.alloc (.cells X 34)).alloc (.cells Y 34)).heap.size ((w.alloc (.cells X 34)).alloc (.cells Y 34)) w1)
    (hO : Own w1 ((w.alloc (.cells X 34)).alloc (.cells Y 34)).heap.size w1.heap.size A' n c' ls)
    (hA : At w2 w1.heap.size 34 #[.int .i64 R, .int .i64 C, .slice A' n c', .int .i64 r, .int .i64 k]) (hBut : But w1.heap.size (w1.alloc (.cells Z 34)) w2) :
    PutAt w w2 w1.heap.size c' n (w.heap.size + 2) w1.heap.size A' R C r k A c ls := by
  subst hX hY
  obtain ⟨f1, f2, f3, f4⟩ := fresh hB
  have hs0 : ((w.alloc (.cells #[.int .i64 R, .int .i64 C, .slice A n c, .int .i64 r, .int .i64 k] 34)).alloc (.cells #[.int .i64 0, .int .i64 0, .slice none 0 0, .int .i64 0, .int .i64 0] 34)).heap.size = w.heap.size + 2 := by simp
  rw [hs0] at hO
  have hb : Below w1.heap.size w1 w2 := ((Below.refl _ _).alloc (Nat.le_refl _) _).trans (hBut.below (Nat.le_refl _))
  exact ⟨f1.keep hb f1.lt, f2.keep hb f2.lt, hA, hO.below hb (Nat.le_refl _), Nat.le_refl _, f4, Nat.le_refl _, f3.trans (hb.mono f3.size)⟩
/-- Put's end: the clone goes out. -/
theorem PutAt.done {w w2 w3 : World} {g9 c' n lo hi : Nat} {A' : Option Addr} {R C r k : Int} {A : Option Addr} {c : Nat} {ls : List (List UInt8)} (H : PutAt w w2 g9 c' n lo hi A' R C r k A c ls) (hBut : But (w.heap.size + 1) w2 w3) :
    Own w3 w.heap.size w3.heap.size A' n c' ls ∧ Below w.heap.size w w3 := by
  have h1 := H.lo2
  have h2 := H.hi9
  have h3 := H.cl.lt
  have h4 := hBut.size
  exact ⟨(H.own.keep (fun b hb _ => hBut.block b (by omega))).mono (by omega) (by omega), H.below.trans (hBut.below (by omega))⟩
/-- A byte is laid into the clone. -/
theorem PutAt.put {w w2 : World} {g9 c' n lo hi : Nat} {A' : Option Addr} {R C r k : Int} {A : Option Addr} {c : Nat} {ls : List (List UInt8)} (H : PutAt w w2 g9 c' n lo hi A' R C r k A c ls) (i j : Nat) (l : List UInt8) (x y : UInt8) (hl : ls[i]? = some l) (hx : l[j]? = some x) :
    ∃ hb b d, A' = some ⟨hb, 0, none⟩ ∧ w2.cell? ⟨hb, i, none⟩ = some (.slice (some ⟨b, 0, none⟩) l.length d) ∧ w2.cell? ⟨b, j, none⟩ = some (.int .u8 (x.toNat : Int)) ∧ w2.frozen? ⟨b, j, none⟩ = false ∧ b < g9 ∧
      PutAt w (w2.setCell ⟨b, j, none⟩ (.int .u8 (y.toNat : Int))) g9 c' n lo hi A' R C r k A c (setAt ls i j y) := by
  obtain ⟨hb, b, d, e, c1, c2, c3, c4, c5, _, _, c6⟩ := H.own.spot i j l x hl hx
  have := H.lo2
  have := H.hi9
  have h9 := H.lo9
  exact ⟨hb, b, d, e, c1, c2, c3, by omega, ⟨H.inn.far (by show w.heap.size ≠ b; omega) _, H.out.far (by show w.heap.size + 1 ≠ b; omega) _, H.cl.far (by show g9 ≠ b; omega) _, c6 y, H.lo2, H.lo9, H.hi9, H.below.setCell (by show w.heap.size ≤ b; omega) _⟩⟩
theorem putC_no {g : Gd} {row col : Int} {b : UInt8} (h : putOk g row col b = false) : putC g row col b = g.cells := by unfold putC; rw [h]; rfl
theorem putC_yes {g : Gd} {row col : Int} {b : UInt8} (h : putOk g row col b = true) : putC g row col b = setAt g.cells row.toNat col.toNat b := by unfold putC; rw [h]; rfl
set_option maxHeartbeats 8000000 in
set_option maxRecDepth 100000 in
theorem put_is (R C r k : Int) (A : Option Addr) (n c : Nat) (ls : List (List UInt8)) (row col : Int) (b : UInt8) (w : World) (hf : few ls) (h1 : Gr w 0 w.heap.size A n c ls) :
    Calls Try.prog 22 #[.agg #[.int .i64 R, .int .i64 C, .slice A n c, .int .i64 r, .int .i64 k], .int .i64 row, .int .i64 col, .int .u8 (b.toNat : Int)] w fun e w' => ∃ h, e = .returned (.agg #[.int .i64 R, .int .i64 C, .slice (some ⟨h, 0, none⟩) n n, .int .i64 r, .int .i64 k]) ∧ Own w' w.heap.size w'.heap.size (some ⟨h, 0, none⟩) n n (putC ⟨R, C, ls, r, k⟩ row col b) ∧ Below w.heap.size w w' := by
  have N1 := Lib.hid h1.len
  have m1 : n ≤ 200 := by have := hf.1; have := h1.len; omega
  obtain ⟨b1, hb1⟩ : ∃ b, may ⟨R, C, ls, r, k⟩ = b := ⟨_, rfl⟩
  obtain ⟨b2, hb2⟩ : ∃ b, hasB R C row col = b := ⟨_, rfl⟩
  obtain ⟨b3, hb3⟩ : ∃ z, okB b = z := ⟨_, rfl⟩
  have CC := Lib.hid (fun W (h : Gr W 0 W.heap.size A n c ls) => clone_is R C r k A n c ls W hf h)
  have CK := Lib.hid (fun W (h : Gr W 0 W.heap.size A n c ls) => check_is R C r k A n c ls b1 hb1 W hf h)
  have CH := Lib.hid (fun W => hb2 ▸ has_is R C r k (.slice A n c) row col W)
  have CB := Lib.hid (fun W => isNoCell_is b W)
  have K1 := Lib.hid hb1
  have K2 := Lib.hid hb2
  have K3 := Lib.hid hb3
  have H1 := Lib.hid h1
  have PO : Hid (putOk ⟨R, C, ls, r, k⟩ row col b = (b1 && b2 && b3)) := Lib.hid (by unfold putOk; rw [hb1, hb3]; show (b1 && hasB R C row col && b3) = _; rw [hb2])
  clear hb1 hb2 hb3 h1 hf
  cases b1
  · have hmk : errI false = 2 := rfl
    rw [hmk] at CK
    go_enter Try.func22, Try.ntmps22
    go_wp2_with fail
    go_at_call 23
    refine (CC.out _ ((H1.out.below (below2 w _ _ _ _) (Nat.le_refl _)).mono (Nat.le_refl _) (by simp; omega))).mono ?_
    rintro e w1 ⟨h, rfl, hO, hB⟩
    have HO := Lib.hid hO
    have HB := Lib.hid hB
    have HN := Lib.hid (At.new w1 34 #[.int .i64 0, .int .i64 0, .slice none 0 0, .int .i64 0, .int .i64 0])
    have hz1 := (fresh HB.out).2.2.2
    obtain ⟨a0, a1, a2, a3, a4⟩ := ((fresh HB.out).1.alloc (.cells #[.int .i64 0, .int .i64 0, .slice none 0 0, .int .i64 0, .int .i64 0] 34)).five
    clear hO hB
    go_wp2_with (refine wpList_storeG rfl (.tmp 9) (.tmp 11) rfl w1.heap.size R C r k (some ⟨h, 0, none⟩) n n rfl rfl _ HN.out rfl ?_; intro w2 hA2 hBut; have HP := Lib.hid (PutAt.mk' rfl rfl HB.out HO.out hA2 hBut); clear hA2 hBut a0 a1 a2 a3 a4; obtain ⟨a0, a1, a2, a3, a4⟩ := HP.out.inn.five)
    go_at_call 19
    refine (CK.out _ ((H1.out.below HP.out.below (Nat.le_refl _)).mono (Nat.le_refl _) HP.out.below.size)).mono ?_
    rintro e w3 ⟨rfl, hB3⟩
    have HP3 := Lib.hid (HP.out.keep hB3)
    clear hB3 a0 a1 a2 a3 a4
    obtain ⟨a0, a1, a2, a3, a4⟩ := HP3.out.inn.five
    obtain ⟨c0, c1, c2, c3, c4⟩ := HP3.out.cl.five
    have HZ := Lib.hid HP3.out.out
    go_wp2_with (refine wpList_storeG rfl (.tmp 8) (.tmp 34) rfl (w.heap.size + 1) R C r k (some ⟨h, 0, none⟩) n n rfl rfl _ HZ.out rfl ?_; intro w9 hA9 hBut9)
    obtain ⟨d0, d1, d2, d3, d4⟩ := hA9.five
    obtain ⟨f1, f2⟩ := HP3.out.done hBut9
    refine bodyPost_ret (v := .agg #[.int .i64 R, .int .i64 C, .slice (some ⟨h, 0, none⟩) n n, .int .i64 r, .int .i64 k]) (by simp [results, Try.results22, go_sem, d0, d1, d2, d3, d4]) rfl ⟨_, rfl, ?_, f2⟩
    rw [putC_no (by rw [PO.out]; rfl)]; exact f1
  · have hmk : errI true = 0 := rfl
    rw [hmk] at CK
    cases b2
    · skip
      go_enter Try.func22, Try.ntmps22
      go_wp2_with fail
      go_at_call 23
      refine (CC.out _ ((H1.out.below (below2 w _ _ _ _) (Nat.le_refl _)).mono (Nat.le_refl _) (by simp; omega))).mono ?_
      rintro e w1 ⟨h, rfl, hO, hB⟩
      have HO := Lib.hid hO
      have HB := Lib.hid hB
      have HN := Lib.hid (At.new w1 34 #[.int .i64 0, .int .i64 0, .slice none 0 0, .int .i64 0, .int .i64 0])
      have hz1 := (fresh HB.out).2.2.2
      obtain ⟨a0, a1, a2, a3, a4⟩ := ((fresh HB.out).1.alloc (.cells #[.int .i64 0, .int .i64 0, .slice none 0 0, .int .i64 0, .int .i64 0] 34)).five
      clear hO hB
      go_wp2_with (refine wpList_storeG rfl (.tmp 9) (.tmp 11) rfl w1.heap.size R C r k (some ⟨h, 0, none⟩) n n rfl rfl _ HN.out rfl ?_; intro w2 hA2 hBut; have HP := Lib.hid (PutAt.mk' rfl rfl HB.out HO.out hA2 hBut); clear hA2 hBut a0 a1 a2 a3 a4; obtain ⟨a0, a1, a2, a3, a4⟩ := HP.out.inn.five)
      go_at_call 19
      refine (CK.out _ ((H1.out.below HP.out.below (Nat.le_refl _)).mono (Nat.le_refl _) HP.out.below.size)).mono ?_
      rintro e w3 ⟨rfl, hB3⟩
      have HP3 := Lib.hid (HP.out.keep hB3)
      clear hB3 a0 a1 a2 a3 a4
      obtain ⟨a0, a1, a2, a3, a4⟩ := HP3.out.inn.five
      go_wp2_with fail
      go_at_call 32
      refine (CH.out _).mono ?_
      rintro e w4 ⟨rfl, hB4⟩
      have HP4 := Lib.hid (HP3.out.keep hB4)
      clear hB4 a0 a1 a2 a3 a4
      obtain ⟨c0, c1, c2, c3, c4⟩ := HP4.out.cl.five
      have HZ := Lib.hid HP4.out.out
      go_wp2_with (refine wpList_storeG rfl (.tmp 8) (.tmp 34) rfl (w.heap.size + 1) R C r k (some ⟨h, 0, none⟩) n n rfl rfl _ HZ.out rfl ?_; intro w9 hA9 hBut9)
      obtain ⟨d0, d1, d2, d3, d4⟩ := hA9.five
      obtain ⟨f1, f2⟩ := HP4.out.done hBut9
      refine bodyPost_ret (v := .agg #[.int .i64 R, .int .i64 C, .slice (some ⟨h, 0, none⟩) n n, .int .i64 r, .int .i64 k]) (by simp [results, Try.results22, go_sem, d0, d1, d2, d3, d4]) rfl ⟨_, rfl, ?_, f2⟩
      rw [putC_no (by rw [PO.out]; rfl)]; exact f1
    · cases b3
      · skip
        go_enter Try.func22, Try.ntmps22
        go_wp2_with fail
        go_at_call 23
        refine (CC.out _ ((H1.out.below (below2 w _ _ _ _) (Nat.le_refl _)).mono (Nat.le_refl _) (by simp; omega))).mono ?_
        rintro e w1 ⟨h, rfl, hO, hB⟩
        have HO := Lib.hid hO
        have HB := Lib.hid hB
        have HN := Lib.hid (At.new w1 34 #[.int .i64 0, .int .i64 0, .slice none 0 0, .int .i64 0, .int .i64 0])
        have hz1 := (fresh HB.out).2.2.2
        obtain ⟨a0, a1, a2, a3, a4⟩ := ((fresh HB.out).1.alloc (.cells #[.int .i64 0, .int .i64 0, .slice none 0 0, .int .i64 0, .int .i64 0] 34)).five
        clear hO hB
        go_wp2_with (refine wpList_storeG rfl (.tmp 9) (.tmp 11) rfl w1.heap.size R C r k (some ⟨h, 0, none⟩) n n rfl rfl _ HN.out rfl ?_; intro w2 hA2 hBut; have HP := Lib.hid (PutAt.mk' rfl rfl HB.out HO.out hA2 hBut); clear hA2 hBut a0 a1 a2 a3 a4; obtain ⟨a0, a1, a2, a3, a4⟩ := HP.out.inn.five)
        go_at_call 19
        refine (CK.out _ ((H1.out.below HP.out.below (Nat.le_refl _)).mono (Nat.le_refl _) HP.out.below.size)).mono ?_
        rintro e w3 ⟨rfl, hB3⟩
        have HP3 := Lib.hid (HP.out.keep hB3)
        clear hB3 a0 a1 a2 a3 a4
        obtain ⟨a0, a1, a2, a3, a4⟩ := HP3.out.inn.five
        go_wp2_with fail
        go_at_call 32
        refine (CH.out _).mono ?_
        rintro e w4 ⟨rfl, hB4⟩
        have HP4 := Lib.hid (HP3.out.keep hB4)
        clear hB4 a0 a1 a2 a3 a4
        go_wp2_with fail
        go_at_call 34
        refine (CB.out _).mono ?_
        rw [K3.out]
        rintro e w5 ⟨rfl, hw5⟩
        have hw5 := hw5.symm
        subst hw5
        obtain ⟨c0, c1, c2, c3, c4⟩ := HP4.out.cl.five
        have HZ := Lib.hid HP4.out.out
        go_wp2_with (refine wpList_storeG rfl (.tmp 8) (.tmp 34) rfl (w.heap.size + 1) R C r k (some ⟨h, 0, none⟩) n n rfl rfl _ HZ.out rfl ?_; intro w9 hA9 hBut9)
        obtain ⟨d0, d1, d2, d3, d4⟩ := hA9.five
        obtain ⟨f1, f2⟩ := HP4.out.done hBut9
        refine bodyPost_ret (v := .agg #[.int .i64 R, .int .i64 C, .slice (some ⟨h, 0, none⟩) n n, .int .i64 r, .int .i64 k]) (by simp [results, Try.results22, go_sem, d0, d1, d2, d3, d4]) rfl ⟨_, rfl, ?_, f2⟩
        rw [putC_no (by rw [PO.out]; rfl)]; exact f1
      · have hr := has_iff.1 K2.out
        have hmy := may_iff.1 K1.out
        obtain ⟨i, hi⟩ : ∃ i : Nat, row = i := ⟨row.toNat, by omega⟩
        obtain ⟨j, hj⟩ : ∃ j : Nat, col = j := ⟨col.toNat, by omega⟩
        have hin : i < n := by have := N1.out; have := hmy.2.1; dsimp only at this; omega
        obtain ⟨l, hl⟩ : ∃ l, ls[i]? = some l := ⟨_, List.getElem?_eq_getElem (by rw [← N1.out]; exact hin)⟩
        have hll : (l.length : Int) = C := may_row (g := ⟨R, C, ls, r, k⟩) K1.out hl
        have hjl : j < l.length := by omega
        obtain ⟨x, hx⟩ : ∃ x, l[j]? = some x := ⟨_, List.getElem?_eq_getElem hjl⟩
        subst hi hj
        have HL := Lib.hid hl
        have HX := Lib.hid hx
        clear hr hmy hll hl hx
        obtain ⟨q, hq⟩ : ∃ q, q = l.length := ⟨_, rfl⟩
        rw [← hq] at hjl
        have HQ := Lib.hid hq
        clear hq
        go_enter Try.func22, Try.ntmps22
        go_wp2_with fail
        go_at_call 23
        refine (CC.out _ ((H1.out.below (below2 w _ _ _ _) (Nat.le_refl _)).mono (Nat.le_refl _) (by simp; omega))).mono ?_
        rintro e w1 ⟨h, rfl, hO, hB⟩
        have HO := Lib.hid hO
        have HB := Lib.hid hB
        have HN := Lib.hid (At.new w1 34 #[.int .i64 0, .int .i64 0, .slice none 0 0, .int .i64 0, .int .i64 0])
        have hz1 := (fresh HB.out).2.2.2
        obtain ⟨a0, a1, a2, a3, a4⟩ := ((fresh HB.out).1.alloc (.cells #[.int .i64 0, .int .i64 0, .slice none 0 0, .int .i64 0, .int .i64 0] 34)).five
        clear hO hB
        go_wp2_with (refine wpList_storeG rfl (.tmp 9) (.tmp 11) rfl w1.heap.size R C r k (some ⟨h, 0, none⟩) n n rfl rfl _ HN.out rfl ?_; intro w2 hA2 hBut; have HP := Lib.hid (PutAt.mk' rfl rfl HB.out HO.out hA2 hBut); clear hA2 hBut a0 a1 a2 a3 a4; obtain ⟨a0, a1, a2, a3, a4⟩ := HP.out.inn.five)
        go_at_call 19
        refine (CK.out _ ((H1.out.below HP.out.below (Nat.le_refl _)).mono (Nat.le_refl _) HP.out.below.size)).mono ?_
        rintro e w3 ⟨rfl, hB3⟩
        have HP3 := Lib.hid (HP.out.keep hB3)
        clear hB3 a0 a1 a2 a3 a4
        obtain ⟨a0, a1, a2, a3, a4⟩ := HP3.out.inn.five
        go_wp2_with fail
        go_at_call 32
        refine (CH.out _).mono ?_
        rintro e w4 ⟨rfl, hB4⟩
        have HP4 := Lib.hid (HP3.out.keep hB4)
        clear hB4 a0 a1 a2 a3 a4
        go_wp2_with fail
        go_at_call 34
        refine (CB.out _).mono ?_
        rw [K3.out]
        rintro e w5 ⟨rfl, hw5⟩
        have hw5 := hw5.symm
        subst hw5
        obtain ⟨hb9, b9, d9, e0, e1, e2, e3, e4, HP6⟩ := HP4.out.put i j l x b HL.out HX.out
        injection e0 with e0
        injection e0 with e0 _
        subst e0
        rw [← HQ.out] at e1
        have HP5 := Lib.hid HP6
        clear HP6
        obtain ⟨c0, c1, c2, c3, c4⟩ := HP4.out.cl.five
        have HZ := Lib.hid HP5.out.out
        have ne1 : ¬ w1.heap.size = b9 := by omega
        have ne2 : ¬ b9 = w1.heap.size := by omega
        go_wp2_with (refine wpList_storeG rfl (.tmp 8) (.tmp 34) rfl (w.heap.size + 1) R C r k (some ⟨h, 0, none⟩) n n rfl rfl _ HZ.out rfl ?_; intro w9 hA9 hBut9)
        obtain ⟨d0, d1, d2, d3, d4⟩ := hA9.five
        obtain ⟨f1, f2⟩ := HP5.out.done hBut9
        refine bodyPost_ret (v := .agg #[.int .i64 R, .int .i64 C, .slice (some ⟨h, 0, none⟩) n n, .int .i64 r, .int .i64 k]) (by simp [results, Try.results22, go_sem, d0, d1, d2, d3, d4]) rfl ⟨_, rfl, ?_, f2⟩
        rw [putC_yes (by rw [PO.out]; rfl)]
        exact f1
end Go.Proofs.Yteekihhngjbjgaa.grd
