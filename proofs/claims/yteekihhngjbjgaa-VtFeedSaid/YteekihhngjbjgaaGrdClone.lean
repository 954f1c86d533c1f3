/- Grids: Clone, of the program: each row in new memory of its own. -/
import Derived.Test.YteekihhngjbjgaaGrdNew
import Derived.Test.YteekihhngjbjgaaGrdSame
namespace Go.Proofs.Yteekihhngjbjgaa.grd
open Go.RowKit Go.Lib
set_option linter.unusedVariables false
set_option linter.unusedSimpArgs false
set_option linter.unnecessarySimpa false
set_option linter.unusedSectionVars false

/-- The first k rows are made. -/
def OwnK (w : World) (lo h n k : Nat) (ls : List (List UInt8)) : Prop :=
  ∃ (hs : Array Value) (f : Nat → Nat), lo ≤ h ∧ At w h 39 hs ∧
    (∀ (i : Nat) l, i < k → ls[i]? = some l → hs[i]? = some (.slice (some ⟨f i, 0, none⟩) l.length l.length) ∧ h < f i ∧ f i < w.heap.size ∧ ∃ cs, At w (f i) 5 cs ∧ ∀ (j : Nat) u, (l.map u8)[j]? = some u → cs[j]? = some u) ∧
    (∀ i, k ≤ i → i < n → hs[i]? = some (.slice none 0 0)) ∧
    ∀ (i j : Nat), i < k → j < k → i < ls.length → j < ls.length → f i = f j → i = j
theorem OwnK.own {w : World} {lo h n : Nat} {ls : List (List UInt8)} (H : OwnK w lo h n n ls) (hn : n = ls.length) : Own w lo w.heap.size (some ⟨h, 0, none⟩) n n ls := by
  obtain ⟨hs, f, h1, h2, h3, h4, h5⟩ := H
  refine ⟨hn, (fun h => (by cases h)), Nat.le_refl _, h, hs, f, fun _ => ⟨rfl, h1, h2.lt, h2⟩, fun i l hl => ?_, fun i j l l' e1 e2 _ _ e => ?_⟩
  · have hi := (List.getElem?_eq_some_iff.1 hl).1
    obtain ⟨a1, a2, a3, a4⟩ := h3 i l (by omega) hl
    exact ⟨_, _, a1, (fun h => (by cases h)), fun _ => ⟨rfl, by omega, by omega, a3, a4⟩⟩
  · have hi := (List.getElem?_eq_some_iff.1 e1).1
    have hj := (List.getElem?_eq_some_iff.1 e2).1
    exact h5 i j (by omega) (by omega) hi hj e
/-- One row more: its slice is laid into the list, its bytes into a new block. -/
theorem OwnK.step {w w1 w2 : World} {lo h n k : Nat} {ls : List (List UInt8)} (H : OwnK w lo h n k ls) (hk : k < n) (l : List UInt8) (hl : ls[k]? = some l)
    (hB1 : Below w.heap.size w w1) (hB2 : Below w.heap.size (w1.setCell ⟨h, k, none⟩ (.slice (some ⟨w.heap.size, 0, none⟩) l.length l.length)) w2) (cs : Array Value) (hA : At w2 w.heap.size 5 cs) (hc : ∀ (j : Nat) u, (l.map u8)[j]? = some u → cs[j]? = some u) :
    OwnK w2 lo h n (k + 1) ls := by
  obtain ⟨hs, f, h1, h2, h3, h4, h5⟩ := H
  have hlt := h2.lt
  have hks : k < hs.size := (Array.getElem?_eq_some_iff.1 (h4 k (Nat.le_refl _) hk)).1
  have hkl := (List.getElem?_eq_some_iff.1 hl).1
  have g2 : At w2 h 39 (hs.setIfInBounds k (.slice (some ⟨w.heap.size, 0, none⟩) l.length l.length)) := ((h2.keep hB1 hlt).set k _).keep hB2 hlt
  have hz := hA.lt
  refine ⟨_, fun i => if i = k then w.heap.size else f i, h1, g2, fun i l' hi hl' => ?_, fun i a b => ?_, fun i j hi hj e1 e2 e => ?_⟩
  · by_cases hik : i = k
    · subst hik
      rw [hl, Option.some.injEq] at hl'
      subst hl'
      dsimp only
      rw [if_pos rfl]
      refine ⟨by rw [Array.getElem?_setIfInBounds, if_pos rfl, if_pos hks], hlt, hz, cs, hA, hc⟩
    · dsimp only
      rw [if_neg hik]
      obtain ⟨a1, a2, a3, cs', a4, a5⟩ := h3 i l' (by omega) hl'
      refine ⟨by rw [Array.getElem?_setIfInBounds, if_neg (Ne.symm hik)]; exact a1, a2, by omega, cs', ?_, a5⟩
      exact ((a4.keep hB1 a3).far (p := ⟨h, k, none⟩) (by show f i ≠ h; omega) _).keep hB2 a3
  · rw [Array.getElem?_setIfInBounds, if_neg (by omega)]
    exact h4 i (by omega) b
  · have q : ∀ i, i < k + 1 → i < ls.length → i ≠ k → f i < w.heap.size := fun i hi hil hne => by
      obtain ⟨_, _, a3, _⟩ := h3 i _ (by omega) (List.getElem?_eq_getElem hil)
      exact a3
    dsimp only at e
    by_cases hik : i = k
    · by_cases hjk : j = k
      · omega
      · rw [if_pos hik, if_neg hjk] at e
        have := q j hj e2 hjk
        omega
    · by_cases hjk : j = k
      · rw [if_neg hik, if_pos hjk] at e
        have := q i hi e1 hik
        omega
      · rw [if_neg hik, if_neg hjk] at e
        exact h5 i j (by omega) (by omega) e1 e2 e
theorem clone_start {w W : World} {X Y : Array Value} {n : Nat} {ls : List (List UInt8)} (hown : W.ownsRow (w.heap.size + 2) 39 1 (.slice (some ⟨((w.alloc (.cells X 34)).alloc (.cells Y 34)).heap.size, 0, none⟩) n n) n (List.replicate n (Value.slice none 0 0)))
    (hg : ((w.alloc (.cells X 34)).alloc (.cells Y 34)).grownBy W none) :
    At W w.heap.size 34 X ∧ At W (w.heap.size + 1) 34 Y ∧ Below w.heap.size w W ∧ (0 < n → OwnK W w.heap.size (w.heap.size + 1 + 1) n 0 ls) := by
  have hs0 : ((w.alloc (.cells X 34)).alloc (.cells Y 34)).heap.size = w.heap.size + 2 := by simp
  have hs1 : (w.alloc (.cells X 34)).heap.size = w.heap.size + 1 := by simp
  have hgr := (Below.refl (w.heap.size + 2) _).grown hg (by omega) (fun k e => by cases e)
  have hA1 := At.keep ((At.new w 34 X).alloc (.cells Y 34)) hgr (by omega)
  have hA2 := At.keep (At.new (w.alloc (.cells X 34)) 34 Y) hgr (by omega)
  rw [hs1] at hA2
  refine ⟨hA1, hA2, (below2 w X Y 34 34).trans (hgr.mono (by omega)), fun hn => ?_⟩
  obtain ⟨g, cs, e, _, h1, h2⟩ := own_block hown hn
  injection e with e; injection e with e _
  rw [hs0] at e
  subst e
  exact ⟨cs, fun _ => 0, by omega, h1, fun i l hi => absurd hi (Nat.not_lt_zero _), fun i _ hi => h2 i _ (by rw [List.getElem?_replicate, if_pos hi]), fun i j hi => absurd hi (Nat.not_lt_zero _)⟩
theorem own_block' {w : World} {base n c : Nat} {e : TypeId} {a : Addr} {xs : List Value} (h : w.ownsRow base e 1 (.slice (some a) n c) n xs) : ∃ g cs, a = ⟨g, 0, none⟩ ∧ base ≤ g ∧ At w g e cs ∧ ∀ (j : Nat) u, xs[j]? = some u → cs[j]? = some u := by
  rcases h.2 with ⟨hv, h0⟩ | ⟨g, cap, cur, hv, hg, hh, _⟩
  · injection hv with hv; cases hv
  · injection hv with hA
    injection hA with hA
    subst hA
    refine ⟨g, cur, rfl, hg, hh, fun j u hj => ?_⟩
    have := h.cells (g := g) rfl j u hj
    rw [Go.WideShapes.add_plain, Nat.zero_add] at this
    rw [← At.cell hh j]; exact this
theorem clone_copy {w0 w w3 : World} {m j h : Nat} {B1 : Option Addr} {x : List UInt8} (U : Value) (hm : m = x.length) (hh : w0.heap.size ≤ h) (hh2 : h < w.heap.size) (hB0 : Below w0.heap.size w0 w) (hown : w3.ownsRow w.heap.size 5 1 (.slice (some ⟨w.heap.size, 0, none⟩) m m) m (List.replicate m (.int .u8 0))) (hB : Below w.heap.size w w3) (V : VRd w 0 w0.heap.size B1 (x.map u8)) :
    ∃ cs : List Value, (w3.setCell ⟨h, j, none⟩ U).heap[w.heap.size]? = some (.cells cs.toArray 5 (0, 0)) ∧ 0 + (x.map u8).length ≤ cs.length ∧
      (0 < (x.map u8).length → (some (⟨w.heap.size, 0, none⟩ : Addr)) = some ⟨w.heap.size, 0, none⟩ ∧ ∃ ad, B1 = some ad ∧ ∀ (j' : Nat) v, (x.map u8)[j']? = some v → (w3.setCell ⟨h, j, none⟩ U).cell? (ad.add j') = some v) := by
  obtain ⟨g, cs, e, _, h1, h2⟩ := own_block' hown
  injection e with e _
  subst e
  refine ⟨cs.toList, ?_, ?_, fun h0 => ⟨rfl, ?_⟩⟩
  · rw [Array.toArray_toList]
    exact h1.far (p := ⟨h, j, none⟩) (by show w.heap.size ≠ h; omega) U
  · rw [List.length_map, Nat.zero_add, ← hm, Array.length_toList]
    rcases Nat.eq_zero_or_pos m with hm0 | hm0
    · omega
    · have := (Array.getElem?_eq_some_iff.1 (h2 (m - 1) _ (by rw [List.getElem?_replicate, if_pos (by omega)]))).1
      omega
  · obtain ⟨b, off, rfl, _, hb, hc⟩ := V h0
    refine ⟨_, rfl, fun j' v hv => ?_⟩
    rw [Go.WideShapes.add_plain, World.cell?_setCell_other _ _ _ _ (fun e => by injection e with e _; omega), hB.cell (p := ⟨b, off + j', none⟩) (by have := hB0.size; show b < w.heap.size; omega)]
    exact hc j' v hv
theorem splice_zero {α : Type} (L cs : List α) (j : Nat) (u : α) (h : cs[j]? = some u) : (splice L 0 cs)[j]? = some u := by
  unfold splice
  have := (List.getElem?_eq_some_iff.1 h).1
  rw [List.take_zero, List.nil_append, List.getElem?_append_left this]; exact h
set_option maxHeartbeats 4000000 in
set_option maxRecDepth 100000 in
theorem clone_is (R C r k : Int) (A : Option Addr) (n c : Nat) (ls : List (List UInt8)) (w : World) (hf : few ls) (h1 : Gr w 0 w.heap.size A n c ls) :
    Calls Try.prog 23 #[.agg #[.int .i64 R, .int .i64 C, .slice A n c, .int .i64 r, .int .i64 k]] w fun e w' => ∃ h, e = .returned (.agg #[.int .i64 R, .int .i64 C, .slice (some ⟨h, 0, none⟩) n n, .int .i64 r, .int .i64 k]) ∧ Own w' w.heap.size w'.heap.size (some ⟨h, 0, none⟩) n n ls ∧ Below w.heap.size w w' := by
  obtain ⟨i0, hi0, hz0, hz1, hz2⟩ := info_parts info32
  obtain ⟨j0, hj0, hy0, hy1, hy2⟩ := info_parts info5
  have hml : (1000000 : Nat) ≤ maxLen := by unfold maxLen; omega
  have hn200 : n ≤ 200 := by have := hf.1; have := h1.len; omega
  have N1 := Lib.hid h1.len
  have H1 := Lib.hid h1
  have HF := Lib.hid hf
  clear h1 hf
  go_enter Try.func23, Try.ntmps23
  go_wp2_with (at_make; refine wpList_make_full _ rfl (.tmp 8) (.tmp 8) 32 rfl (w.heap.size + 2) 39 i0 (.slice none 0 0) 1 Try.underlying32 hi0 hz0 hz1 .i64 .i64 _ _ n rfl rfl rfl rfl (by rw [hz2]; omega) (by omega) (by simp) ?_; intro W2 hown2 hgrow2; rw [made_rows] at hown2; obtain ⟨hA1, hA2, hB2, hK⟩ := clone_start (ls := ls) hown2 hgrow2; have a2 : W2.cell? ⟨w.heap.size, 2, none⟩ = some (.slice A n c) := hA1.cell 2; have HK := Lib.hid hK; clear hown2 hgrow2 hK)
  clear a2
  go_loopg [13, 4, 5] n (fun g s13 s4 s5 wr => ∃ j : Nat, j ≤ n ∧ n - j ≤ g ∧ s13 = .int .i64 j ∧ Below w.heap.size w wr ∧ At wr w.heap.size 34 #[.int .i64 R, .int .i64 C, .slice A n c, .int .i64 r, .int .i64 k] ∧ At wr (w.heap.size + 1) 34 #[.int .i64 0, .int .i64 0, .slice none 0 0, .int .i64 0, .int .i64 0] ∧ Hid (0 < n → OwnK wr w.heap.size (w.heap.size + 1 + 1) n j ls))
  case atStart => exact ⟨0, Nat.zero_le _, by omega, rfl, hB2, hA1, hA2, HK⟩
  case round =>
    obtain ⟨j, hj, hg, rfl, hB, hA, hZ, HO⟩ := hrel
    clear hB2 hA1 hA2 HK
    by_cases hlt : j < n
    · obtain ⟨x, hx⟩ : ∃ x, ls[j]? = some x := ⟨_, List.getElem?_eq_getElem (by rw [← N1.out]; exact hlt)⟩
      have G := (H1.out.below hB (Nat.le_refl _))
      obtain ⟨b1, o1, B1, d1, rfl, _, hb1, g1, _, _, v1⟩ := G.at j x hx
      have hxl : x.length ≤ 20000 := HF.out.2 x (List.mem_of_getElem? hx)
      obtain ⟨m, hm⟩ : ∃ m, m = x.length := ⟨_, rfl⟩
      rw [← hm] at g1 hxl
      have HM := Lib.hid hm
      have HX := Lib.hid hx
      have V := Lib.hid v1
      have O1 := HO.out (by omega)
      obtain ⟨hs, f, _, hH, _, hrest, _⟩ := id O1
      have hhc : wr.cell? ⟨w.heap.size + 1 + 1, j, none⟩ = some (.slice none 0 0) := (hH.cell j).trans (hrest j (Nat.le_refl _) hlt)
      have hhl := hH.lt
      have HHH := Lib.hid hH
      have HO1 := Lib.hid O1
      have HB := Lib.hid hB
      have HA := Lib.hid hA
      have HZ := Lib.hid hZ
      clear hm hx v1 G hrest O1 HO hH hB hA hZ
      go_wp2_with (first
        | at_make; refine wpList_make_full _ rfl (.tmp 21) (.tmp 21) 39 rfl wr.heap.size 5 j0 (.int .u8 0) 1 Try.underlying39 hj0 hy0 hy1 .i64 .i64 _ _ m rfl rfl rfl rfl (by rw [hy2]; omega) (by omega) (Nat.le_refl _) ?_; intro w3 hown3 hgrow3; rw [made_bytes] at hown3; have hB3 := (Below.refl wr.heap.size wr).grown hgrow3 (Nat.le_refl _) (fun k e => by cases e); have hc3 := (hB3.cell (p := ⟨w.heap.size + 1 + 1, j, none⟩) hhl).trans hhc; have hf3 := (HHH.out.keep hB3 hhl).frozen j; have hz3 := hB3.size; obtain ⟨cs, hg4, hfit4, hpos4⟩ := clone_copy (j := j) (.slice (some ⟨wr.heap.size, 0, none⟩) m m) HM.out (by omega) hhl HB.out hown3 hB3 V.out; have HG4 := Lib.hid hg4; have HF4 := Lib.hid hfit4; have HP4 := Lib.hid hpos4; clear hgrow3 hg4 hfit4 hpos4 hown3
        | refine wpList_copy_splice rfl (.tmp 27) (.tmp 28) 39 39 rfl 5 Try.underlying39 size5 (some ⟨wr.heap.size, 0, none⟩) B1 m m m d1 rfl rfl wr.heap.size 0 cs 5 HG4.out (x.map u8) (by rw [List.length_map, ← HM.out]; simp) HP4.out HF4.out (fun v hv => by obtain ⟨y, _, rfl⟩ := List.mem_map.1 hv; rfl) wr.heap.size _ (Below.refl _ _) (Nat.le_refl _) ?_; intro w5 hg5 hb5)
      have HK5 : Hid (0 < n → OwnK w5 w.heap.size (w.heap.size + 1 + 1) n (j + 1) ls) := Lib.hid fun _ => by
        refine HO1.out.step hlt x HX.out hB3 ?_ _ hg5.out (fun q u hq => ?_)
        · rw [← HM.out]; exact hb5
        · rw [List.getElem?_toArray]; exact splice_zero _ _ _ _ hq
      have K1 := Lib.hid (((HA.out.keep hB3 HA.out.lt).far (p := ⟨w.heap.size + 1 + 1, j, none⟩) (by show w.heap.size ≠ w.heap.size + 1 + 1; omega) (.slice (some ⟨wr.heap.size, 0, none⟩) m m)).keep hb5 HA.out.lt)
      have K2 := Lib.hid (((HZ.out.keep hB3 HZ.out.lt).far (p := ⟨w.heap.size + 1 + 1, j, none⟩) (by show w.heap.size + 1 ≠ w.heap.size + 1 + 1; omega) (.slice (some ⟨wr.heap.size, 0, none⟩) m m)).keep hb5 HZ.out.lt)
      have hwz := HB.out.size
      have K3 : Hid (Below w.heap.size w w5) := Lib.hid (HB.out.trans (((hB3.mono hwz).setCell (p := ⟨w.heap.size + 1 + 1, j, none⟩) (by show w.heap.size ≤ w.heap.size + 1 + 1; omega) _).trans (hb5.mono hwz)))
      clear hg5 hb5 hB3 hc3 hf3
      go_wp2
      go_roundg (n - (j + 1))
      case measure => omega
      case rel => exact ⟨j + 1, by omega, by omega, by go_num, K3.out, K1.out, K2.out, HK5⟩
    · have hjn : j = n := by omega
      subst hjn
      have hlt1 := hZ.lt
      obtain ⟨a0, a1, a2, a3, a4⟩ := hA.five
      have af := hA.frozen 2
      have hA' := hA.set 2 (.slice (some ⟨w.heap.size + 1 + 1, 0, none⟩) j j)
      have HZ' := Lib.hid (hZ.far (p := ⟨w.heap.size, 2, none⟩) (by show w.heap.size + 1 ≠ w.heap.size; omega) (.slice (some ⟨w.heap.size + 1 + 1, 0, none⟩) j j))
      have HB' := Lib.hid (hB.setCell (p := ⟨w.heap.size, 2, none⟩) (Nat.le_refl _) (.slice (some ⟨w.heap.size + 1 + 1, 0, none⟩) j j))
      have HOWN : Hid (Own (wr.setCell ⟨w.heap.size, 2, none⟩ (.slice (some ⟨w.heap.size + 1 + 1, 0, none⟩) j j)) (w.heap.size + 1 + 1) wr.heap.size (some ⟨w.heap.size + 1 + 1, 0, none⟩) j j ls) := Lib.hid (by
        rcases Nat.eq_zero_or_pos j with h0 | h0
        · subst h0
          have : ls = [] := List.eq_nil_of_length_eq_zero N1.out.symm
          rw [this]
          exact Own.zero (fun h => (by cases h))
        · obtain ⟨hs, f, b1, b2, b3, b4, b5⟩ := HO.out h0
          have O : OwnK wr (w.heap.size + 1 + 1) (w.heap.size + 1 + 1) j j ls := ⟨hs, f, Nat.le_refl _, b2, b3, b4, b5⟩
          exact (O.own N1.out).keep (fun b hb _ => Below.heap_setCell _ _ _ _ (by show b ≠ w.heap.size; omega)))
      clear HO hA hZ hB
      go_wp2_with (refine wpList_storeG rfl (.tmp 2) (.tmp 33) rfl (w.heap.size + 1) R C r k (some ⟨w.heap.size + 1 + 1, 0, none⟩) j j rfl rfl _ HZ'.out rfl ?_; intro w6 hA6 hBut)
      obtain ⟨c0, c1, c2, c3, c4⟩ := hA6.five
      refine bodyPost_ret (v := .agg #[.int .i64 R, .int .i64 C, .slice (some ⟨w.heap.size + 1 + 1, 0, none⟩) j j, .int .i64 r, .int .i64 k]) (by simp [results, Try.results23, go_sem, c0, c1, c2, c3, c4]) rfl ⟨_, rfl, ?_, HB'.out.trans (hBut.below (by omega))⟩
      have hz6 := hBut.size
      refine (HOWN.out.keep (fun b h1 _ => hBut.block b (by omega))).mono (by omega) ?_
      rw [hz6]; simp [World.setCell]
end Go.Proofs.Yteekihhngjbjgaa.grd
