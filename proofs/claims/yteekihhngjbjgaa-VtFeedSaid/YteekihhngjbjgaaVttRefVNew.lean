/- Terminals: the document's New; the law VtFeed's words. -/
import Derived.Test.YteekihhngjbjgaaVttRefByte
import Derived.Test.YteekihhngjbjgaaVttLawNone
import Derived.Test.YteekihhngjbjgaaTops
import Derived.Test.YteekihhngjbjgaaGreat
namespace Go.Proofs.Yteekihhngjbjgaa.vtt
open Go.RowKit Go.Lib Go.Proofs.Yteekihhngjbjgaa.grd
set_option linter.unusedVariables false
set_option linter.unusedSimpArgs false
set_option linter.unnecessarySimpa false
set_option linter.unusedSectionVars false

theorem Rv.gr {w : World} {lo rb N : Nat} {s : Ts} {A : Option Addr} {c : Nat} {q : List UInt8} (H : Rv w lo rb N s A c q) : Gr w 0 w.heap.size A s.n c s.ls := (H.own.rows H.ok.few).mono (Nat.zero_le _) (Nat.le_refl _)
set_option maxHeartbeats 2000000 in
set_option maxRecDepth 100000 in
theorem refvnew_yes (n m : Nat) (hz : 2 ≤ n ∧ n ≤ 60 ∧ 8 ≤ m ∧ m ≤ 132) (w : World) : Calls Try.prog 12 #[.int .i64 n, .int .i64 m] w fun e w' => ∃ rb, e = .returned (.pointer (some ⟨rb, 0, none⟩)) ∧ Rt w' w.heap.size rb 0 (new n m) ∧ Below w.heap.size w w' := by
  have C := Lib.hid (fun W => refNew_yes n m hz.1 hz.2.1 hz.2.2.1 hz.2.2.2 W)
  have HZ := Lib.hid hz
  clear hz
  go_enter Try.func12, Try.ntmps12
  go_wp2_with fail
  go_at_call 26
  refine (C.out _).mono ?_
  rintro e w1 ⟨A', c', rfl, hO, hB⟩
  have HO := Lib.hid hO
  have HB := Lib.hid hB
  have HN := Lib.hid (At.new w1 34 #[.int .i64 0, .int .i64 0, .slice none 0 0, .int .i64 0, .int .i64 0])
  clear hO hB C
  go_wp2_with (refine wpList_storeG rfl (.tmp 5) (.tmp 11) rfl w1.heap.size n m 0 0 A' n c' rfl rfl _ HN.out rfl ?_; intro w2 hA2 hBut; obtain ⟨c0, c1, c2, c3, c4⟩ := hA2.five; have HA2 := Lib.hid hA2; have HBut := Lib.hid hBut; clear hA2 hBut)
  have FIN : Hid (Rt (w2.alloc (.cells (rc (new n m) A' c' []) 38)) w.heap.size w2.heap.size 0 (new n m) ∧ Below w.heap.size w (w2.alloc (.cells (rc (new n m) A' c' []) 38))) := Lib.hid (by
    have hB2 : Below w1.heap.size w1 w2 := ((Below.refl _ _).alloc (Nat.le_refl _) _).trans (HBut.out.below (Nat.le_refl _))
    have hB3 : Below w1.heap.size w1 (w2.alloc (.cells (rc (new n m) A' c' []) 38)) := hB2.alloc hB2.size _
    have hs1 := HB.out.size
    have hs2 := hB2.size
    exact ⟨⟨A', c', [], Ok.new HZ.out, At.new w2 _ _, (HO.out.below hB3 (Nat.le_refl _)).mono (Nat.le_refl _) hB3.size, (fun e => by cases e), (fun e => by cases e), Nat.le_refl _, by omega⟩, HB.out.trans (hB3.mono hs1)⟩)
  go_ret
  exact ⟨_, rfl, FIN.out⟩
set_option maxHeartbeats 2000000 in
set_option maxRecDepth 100000 in
theorem refvnew_no (r c : Int) (h : sized r c = false) (w : World) : Calls Try.prog 12 #[.int .i64 r, .int .i64 c] w fun e w' => e = .returned (.pointer none) ∧ Below w.heap.size w w' := by
  have C := Lib.hid (fun W => refNew_no r c h W)
  clear h
  go_enter Try.func12, Try.ntmps12
  go_wp2_with fail
  go_at_call 26
  refine (C.out _).mono ?_
  rintro e w1 ⟨rfl, hB⟩
  have HB := Lib.hid hB
  have HN := Lib.hid (At.new w1 34 #[.int .i64 0, .int .i64 0, .slice none 0 0, .int .i64 0, .int .i64 0])
  clear hB C
  go_wp2_with (refine wpList_storeG rfl (.tmp 5) (.tmp 11) rfl w1.heap.size 0 0 0 0 none 0 0 rfl rfl _ HN.out rfl ?_; intro w2 hA2 hBut; have HBut := Lib.hid hBut; clear hA2 hBut)
  have FIN : Hid (Below w.heap.size w w2) := Lib.hid (HB.out.trans ((((Below.refl w1.heap.size w1).alloc (Nat.le_refl _) _).trans (HBut.out.below (Nat.le_refl _))).mono HB.out.size))
  go_ret
  exact ⟨rfl, FIN.out⟩
theorem size_tot (zs : List ByteArray) (k : Nat) (hk : k < zs.length) : (zs.getD k ByteArray.empty).size ≤ tot zs := by
  induction zs generalizing k with
  | nil => exact absurd hk (Nat.not_lt_zero _)
  | cons a l ih =>
    have e : tot (a :: l) = a.size + tot l := by simp [tot]
    cases k with
    | zero => rw [e]; simp only [List.getD_cons_zero]; omega
    | succ k => rw [e]; have := ih k (by simpa using hk); simp only [List.getD_cons_succ]; omega
def FeedInv (hi b rb : Nat) (w : World) (i : Nat) (W : World) : Prop := ∃ s N, N ≤ i * 3000 ∧ Vt W w.heap.size hi b s ∧ Rt W hi rb N s ∧ Below w.heap.size w W
/-- What the terminal shows, in memory of its own, whatever is written into it. -/
def Cl (w3 : World) (gb h : Nat) (s : Ts) (W : World) : Prop := Below w3.heap.size w3 W ∧ At W gb 34 #[.int .i64 s.n, .int .i64 s.m, .slice (some ⟨h, 0, none⟩) s.n s.n, .int .i64 s.r, .int .i64 s.k] ∧ w3.heap.size ≤ gb ∧ ∃ ls, Own W w3.heap.size gb (some ⟨h, 0, none⟩) s.n s.n ls ∧ ∀ l ∈ ls, l.length = s.m ∧ ∀ c ∈ l, okB c = true
theorem Cl.put {w3 W : World} {gb h : Nat} {s : Ts} (H : Cl w3 gb h s W) (j k : Nat) (hj : j < s.n) (hk : k < s.m) :
    ∃ b d x, W.cell? ⟨h, j, none⟩ = some (.slice (some ⟨b, 0, none⟩) s.m d) ∧ W.cell? ⟨b, k, none⟩ = some x ∧ W.frozen? ⟨b, k, none⟩ = false ∧ Cl w3 gb h s (W.setCell ⟨b, k, none⟩ (.int .u8 88)) := by
  obtain ⟨hB, hA, hgb, ls, hO, hr⟩ := H
  have hl : ls[j]? = some (ls[j]'(by have := hO.len; omega)) := List.getElem?_eq_getElem _
  have hlm := (hr _ (List.mem_of_getElem? hl)).1
  have hx : (ls[j]'(by have := hO.len; omega))[k]? = some ((ls[j]'(by have := hO.len; omega))[k]'(by omega)) := List.getElem?_eq_getElem _
  obtain ⟨hb, b, d, e, c1, c2, c3, c4, c5, c6, c7, c8⟩ := hO.spot j k _ _ hl hx
  injection e with e
  injection e with e _ _
  subst e
  rw [hlm] at c1
  exact ⟨b, d, _, c1, c2, c3, hB.setCell (p := ⟨b, k, none⟩) c4 _, hA.far (p := ⟨b, k, none⟩) (by show gb ≠ b; omega) _, hgb, _, c8 88, setAt_row hr j k 88 rfl⟩
theorem Cl.five {w3 W : World} {gb h : Nat} {s : Ts} (H : Cl w3 gb h s W) : W.cell? ⟨gb, 2, none⟩ = some (.slice (some ⟨h, 0, none⟩) s.n s.n) := H.2.1.cell 2
end Go.Proofs.Yteekihhngjbjgaa.vtt
