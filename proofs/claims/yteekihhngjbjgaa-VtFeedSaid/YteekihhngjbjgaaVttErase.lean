/- Terminals: cells of the cursor's row, or of all rows, are made blanks. -/
import Derived.Test.YteekihhngjbjgaaVttWipe
import Derived.Test.YteekihhngjbjgaaGrdMayKit
import Derived.IntWalk
namespace Go.Proofs.Yteekihhngjbjgaa.vtt
open Go.RowKit Go.Lib Go.Proofs.Yteekihhngjbjgaa.grd
set_option linter.unusedVariables false
set_option linter.unusedSimpArgs false
set_option linter.unnecessarySimpa false
set_option linter.unusedSectionVars false

theorem wipeIf_two (p q : Nat → Nat → Bool) (ls : List (List UInt8)) : wipeIf q (wipeIf p ls) = wipeIf (fun i j => p i j || q i j) ls := by
  apply List.ext_getElem?
  intro i
  rw [wipeIf_get, wipeIf_get, wipeIf_get]
  cases ls[i]? with
  | none => rfl
  | some l =>
    rw [Option.map_some, Option.map_some, Option.map_some]
    congr 1
    apply List.ext_getElem?
    intro j
    rw [List.getElem?_mapIdx, List.getElem?_mapIdx, List.getElem?_mapIdx]
    cases l[j]? with
    | none => rfl
    | some c =>
      simp only [Option.map_some]
      cases p i j <;> cases q i j <;> rfl
/-- What became of a terminal. -/
def Went (lo hi b : Nat) (s' : Ts) (w w' : World) : Prop := Vt w' lo hi b s' ∧ Tn lo hi w w'
section
variable {w w' : World} {lo hi b h g : Nat} {s : Ts} {hs cs : Array Value} {o : Nat → Nat}
theorem Vb.one (H : Vb w lo hi b h g s hs cs o) (i i' j : Nat) (hi : i < s.n) (hi' : i' < s.n) (hj : j < s.m) : (o i' ≤ o i + j ∧ o i + j < o i' + s.m) ↔ i = i' := by
  constructor
  · intro e
    by_cases hh : i = i'
    · exact hh
    · have := H.wr.apart i i' hi hi' hh
      omega
  · rintro rfl; omega
/-- Behind wipe: some stretches are blanks. -/
theorem Vb.wiped (H : Vb w lo hi b h g s hs cs o) {st : List (Nat × Nat)} {p : Nat → Nat → Bool} (hD : Done g (fills cs st) w w') (hp : ∀ i j, i < s.n → j < s.m → inSt st (o i + j) = p i j) :
    Vb w' lo hi b h g { s with ls := wipeIf p s.ls } hs (fills cs st) o :=
  ⟨H.ok.wipe p, H.blk.same (hD.2.block b H.bg), H.wr.fill H.hg st p hD.1 hD.2 hp, H.bb, H.hh, H.gg, H.bh, H.bg, H.hg, by rw [hD.2.size]; exact H.sz⟩
theorem Vb.alloc (H : Vb w lo hi b h g s hs cs o) (ob : Obj) : Vb (w.alloc ob) lo hi b h g s hs cs o := by
  have h1 := H.sz
  have h2 := H.bb
  have h3 := H.hh
  have h4 := H.gg
  exact ⟨H.ok, H.blk.alloc ob, H.wr.keep (Below.heap_alloc w ob h (by omega)) (Below.heap_alloc w ob g (by omega)), H.bb, H.hh, H.gg, H.bh, H.bg, H.hg, by simp; omega⟩
theorem Vb.same (H : Vb w lo hi b h g s hs cs o) (e : w'.heap = w.heap) : Vb w' lo hi b h g s hs cs o :=
  ⟨H.ok, H.blk.same (by rw [e]), H.wr.keep (by rw [e]) (by rw [e]), H.bb, H.hh, H.gg, H.bh, H.bg, H.hg, by rw [e]; exact H.sz⟩
theorem Tn.alloc {lo hi : Nat} {w w' : World} (h : Tn lo hi w w') (ob : Obj) : Tn lo hi w (w'.alloc ob) := h.trans (Tn.of_below ((Below.refl w'.heap.size w').alloc (Nat.le_refl _) ob) (Nat.le_refl _))
/-- One stretch of the cursor's row, laid down as a list of one. -/
theorem sts_one (hg : g < w.heap.size) (T : TypeId) (x l d : Nat) (hx : x + l ≤ cs.size) (hl : l ≤ 1000000) : Sts (w.alloc (.cells #[.slice (some ⟨g, x, none⟩) l d] T)) (some ⟨w.heap.size, 0, none⟩) g cs.size [(x, l)] := by
  refine ⟨fun i p hp => ?_, fun i p hp => ?_⟩
  · match i, hp with
    | 0, hp =>
      obtain rfl : (x, l) = p := by simpa using hp
      exact ⟨w.heap.size, 0, d, rfl, by omega, (At.new w T #[.slice (some ⟨g, x, none⟩) l d]).cell 0⟩
    | i + 1, hp => simp at hp
  · match i, hp with
    | 0, hp =>
      obtain rfl : (x, l) = p := by simpa using hp
      exact ⟨hx, hl⟩
    | i + 1, hp => simp at hp
/-- Rows from one on. -/
def stp (o : Nat → Nat) (m a q : Nat) : List (Nat × Nat) := (List.range q).map fun i => (o (a + i), m)
theorem stp_len (o : Nat → Nat) (m a q : Nat) : (stp o m a q).length = q := by simp [stp]
theorem stp_get {o : Nat → Nat} {m a q i : Nat} {p : Nat × Nat} (h : (stp o m a q)[i]? = some p) : i < q ∧ p = (o (a + i), m) := by
  unfold stp at h
  have hi : i < q := by have := (List.getElem?_eq_some_iff.1 h).1; simpa using this
  rw [List.getElem?_map, List.getElem?_range hi, Option.map_some, Option.some.injEq] at h
  exact ⟨hi, h.symm⟩
theorem sts_rows (H : Vb w lo hi b h g s hs cs o) (a q : Nat) (hq : a + q ≤ s.n) : Sts w (some ⟨h, a, none⟩) g cs.size (stp o s.m a q) := by
  have h1 := H.ok.size
  refine ⟨fun i p hp => ?_, fun i p hp => ?_⟩
  · obtain ⟨h2, rfl⟩ := stp_get hp
    refine ⟨h, a, s.m, rfl, H.hg, ?_⟩
    rw [H.wr.list.cell, H.wr.row (a + i) (by omega)]
  · obtain ⟨h2, rfl⟩ := stp_get hp
    exact ⟨H.wr.bound (a + i) (by omega) (by omega), by dsimp only; omega⟩
theorem stp_in (H : Vb w lo hi b h g s hs cs o) (a q : Nat) (hq : a + q ≤ s.n) (i j : Nat) (hi : i < s.n) (hj : j < s.m) : inSt (stp o s.m a q) (o i + j) = (decide (a ≤ i) && decide (i < a + q)) := by
  unfold inSt
  rw [Bool.eq_iff_iff, List.any_eq_true]
  simp only [Bool.and_eq_true, decide_eq_true_eq]
  constructor
  · rintro ⟨p, hp, h1⟩
    obtain ⟨k, hk⟩ := List.mem_iff_getElem?.1 hp
    obtain ⟨h2, rfl⟩ := stp_get hk
    have := (H.one i (a + k) j hi (by omega) hj).1 h1
    omega
  · intro h1
    refine ⟨(o i, s.m), ?_, by dsimp only; omega⟩
    unfold stp
    rw [List.mem_map]
    exact ⟨i - a, by rw [List.mem_range]; omega, by rw [show a + (i - a) = i by omega]⟩
theorem one_in (H : Vb w lo hi b h g s hs cs o) (r k : Nat) (hr : r < s.n) (hk : k ≤ s.m) (i j : Nat) (hi : i < s.n) (hj : j < s.m) : inSt [(o r + k, s.m - k)] (o i + j) = (decide (i = r) && decide (k ≤ j)) := by
  unfold inSt
  simp only [List.any_cons, List.any_nil, Bool.or_false]
  rw [Bool.eq_iff_iff]
  simp only [Bool.and_eq_true, decide_eq_true_eq]
  constructor
  · intro h1
    have := (H.one i r j hi hr hj).1 (by omega)
    subst this
    omega
  · rintro ⟨rfl, h2⟩
    omega
end
/-- Where a tail of rows lies. -/
def tailA (A : Option Addr) (c m : Nat) : Option Addr := if c = m then A else A.map (·.add (m * 1))
theorem tail_rows (A : Option Addr) (n c m k : Nat) (h : n = m + k) (W : World) :
    (Instr.slice 32 (.slice A n c) (some (.int .i64 (m : Int))) none none).run Try.prog W = .ok (.slice (tailA A c m) k (c - m)) W := by
  have hu : Try.prog.underlying 32 = some (.slice (Try.prog.elem 32)) := by rw [elem32]; exact Try.underlying32
  rw [run_slice_l (P := Try.prog) W 32 A n c hu .i64 (m : Int) (by omega) (by omega), elem32, size32W]
  simp only [Result.andThen, sliced, Int.toNat_natCast, tailA]
  rw [show n - m = k by omega]
theorem sts_tail {w : World} {lo hi b h g : Nat} {s : Ts} {hs cs : Array Value} {o : Nat → Nat} (H : Vb w lo hi b h g s hs cs o) (a q : Nat) (hq : s.n = a + q) : Sts w (tailA (some ⟨h, 0, none⟩) s.n a) g cs.size (stp o s.m a q) := by
  have := sts_rows H a q (by omega)
  refine ⟨fun i p hp => ?_, this.fits⟩
  obtain ⟨h2, _⟩ := stp_get hp
  obtain ⟨b', off, d, e, h3, h4⟩ := this.cell i p hp
  unfold tailA
  rw [if_neg (by omega)]
  refine ⟨b', off, d, ?_, h3, h4⟩
  rw [← e]; simp [Addr.add]; omega
set_option maxHeartbeats 4000000 in
set_option maxRecDepth 100000 in
/-- The cursor's row, from the cursor on. -/
theorem wipeRow_0 (lo hi b h g : Nat) (s : Ts) (hs cs : Array Value) (o : Nat → Nat) (w : World) (H : Vb w lo hi b h g s hs cs o) :
    Calls Try.prog 57 #[.pointer (some ⟨b, 0, none⟩), .int .i64 0] w fun e w' => e = .returned (.tuple #[]) ∧ Went lo hi b { s with ls := wipeIf (p0 s.r s.k) s.ls } w w' := by
  obtain ⟨n, m, ls, r, k, esc, pm⟩ := s
  have HH := Lib.hid H
  obtain ⟨_, _, a2, a3, a4, _⟩ := H.ten
  have hc := H.ok.cur
  have hz := H.ok.size
  dsimp only at hc hz a2 a3 a4
  obtain ⟨hr, hk⟩ := hc
  have l1 : w.cell? ⟨h, r, none⟩ = some (.slice (some ⟨g, o r, none⟩) m m) := by rw [H.wr.list.cell, H.wr.row r hr]
  have hbd := H.wr.bound r hr (by dsimp only; omega)
  dsimp only at hbd
  clear H
  go_enter Try.func57, Try.ntmps57
  go_wp2_with fail
  go_quiet (fail)
  go_wp2_with fail
  go_at_call 47
  have HV := Lib.hid ((HH.out.same (w' := w.drewN nq) rfl).alloc (.cells #[.slice (some ⟨g, o r + k, none⟩) (m - k) (m - k)] 39))
  refine (wipe_is _ 1 1 g [(o r + k, m - k)] cs _ rfl (by omega) HV.out.wr.data (sts_one (HH.out.same (w' := w.drewN nq) rfl).wr.data.lt 39 _ _ _ (by omega) (by omega))).mono ?_
  rintro e w' ⟨rfl, hD⟩
  have FIN : Hid (Went lo hi b { (⟨n, m, ls, r, k, esc, pm⟩ : Ts) with ls := wipeIf (p0 r k) ls } w w') := Lib.hid ⟨(HV.out.wiped (p := p0 r k) hD (fun i j hi hj => one_in HH.out r k hr (Nat.le_of_lt hk) i j hi hj)).vt,
    (((Tn.refl lo hi w).drewN nq).alloc _).trans (Tn.of_but hD.2 HH.out.gg.1 HH.out.gg.2)⟩
  clear hD
  go_wp2
  go_end0
  exact ⟨rfl, FIN.out⟩
set_option maxHeartbeats 4000000 in
set_option maxRecDepth 100000 in
/-- The cursor's row. -/
theorem wipeRow_2 (lo hi b h g : Nat) (s : Ts) (hs cs : Array Value) (o : Nat → Nat) (w : World) (H : Vb w lo hi b h g s hs cs o) :
    Calls Try.prog 57 #[.pointer (some ⟨b, 0, none⟩), .int .i64 2] w fun e w' => e = .returned (.tuple #[]) ∧ Went lo hi b { s with ls := wipeIf (pK s.r) s.ls } w w' := by
  obtain ⟨n, m, ls, r, k, esc, pm⟩ := s
  have HH := Lib.hid H
  obtain ⟨_, _, a2, a3, a4, _⟩ := H.ten
  have hc := H.ok.cur
  have hz := H.ok.size
  dsimp only at hc hz a2 a3 a4
  obtain ⟨hr, hk⟩ := hc
  have l1 : w.cell? ⟨h, r, none⟩ = some (.slice (some ⟨g, o r, none⟩) m m) := by rw [H.wr.list.cell, H.wr.row r hr]
  have hbd := H.wr.bound r hr (by dsimp only; omega)
  dsimp only at hbd
  clear H
  go_enter Try.func57, Try.ntmps57
  go_wp2_with fail
  go_quiet (fail)
  go_wp2_with fail
  go_at_call 47
  have HV := Lib.hid ((HH.out.same (w' := w.drewN nq) rfl).alloc (.cells #[.slice (some ⟨g, o r, none⟩) m m] 39))
  refine (wipe_is _ 1 1 g [(o r, m)] cs _ rfl (by omega) HV.out.wr.data (sts_one (HH.out.same (w' := w.drewN nq) rfl).wr.data.lt 39 _ _ _ (by omega) (by omega))).mono ?_
  rintro e w' ⟨rfl, hD⟩
  have FIN : Hid (Went lo hi b { (⟨n, m, ls, r, k, esc, pm⟩ : Ts) with ls := wipeIf (pK r) ls } w w') := Lib.hid ⟨(HV.out.wiped (p := pK r) hD (fun i j hi hj => by
      have := one_in HH.out r 0 hr (Nat.zero_le _) i j hi hj
      rw [Nat.add_zero, Nat.sub_zero] at this
      exact this.trans (by unfold pK; simp))).vt,
    (((Tn.refl lo hi w).drewN nq).alloc _).trans (Tn.of_but hD.2 HH.out.gg.1 HH.out.gg.2)⟩
  clear hD
  go_wp2
  go_end0
  exact ⟨rfl, FIN.out⟩
set_option maxHeartbeats 4000000 in
set_option maxRecDepth 100000 in
/-- Any other number: nothing. -/
theorem wipeRow_x (lo hi b h g : Nat) (s : Ts) (hs cs : Array Value) (o : Nat → Nat) (w : World) (H : Vb w lo hi b h g s hs cs o) (z : Int) (h0 : z ≠ 0) (h2 : z ≠ 2) :
    Calls Try.prog 57 #[.pointer (some ⟨b, 0, none⟩), .int .i64 z] w fun e w' => e = .returned (.tuple #[]) ∧ Went lo hi b s w w' := by
  have HH := Lib.hid H
  obtain ⟨n, m, ls, r, k, esc, pm⟩ := s
  obtain ⟨_, _, a2, a3, a4, _⟩ := H.ten
  have hc := H.ok.cur
  dsimp only at hc a2 a3 a4
  obtain ⟨hr, hk⟩ := hc
  have l1 : w.cell? ⟨h, r, none⟩ = some (.slice (some ⟨g, o r, none⟩) m m) := by rw [H.wr.list.cell, H.wr.row r hr]
  have q0 : (z == 0) = false := by simpa using h0
  have q2 : (z == 2) = false := by simpa using h2
  clear H h0 h2
  go_enter Try.func57, Try.ntmps57
  go_wp2_with fail
  go_quiet (fail)
  go_wp2
  go_end0
  exact ⟨rfl, (HH.out.same (w' := w.drewN nq) rfl).vt, (Tn.refl lo hi w).drewN nq⟩
set_option maxHeartbeats 4000000 in
set_option maxRecDepth 100000 in
/-- All cells from the cursor on. -/
theorem wipeScreen_0 (lo hi b : Nat) (s : Ts) (w : World) (H : Vt w lo hi b s) :
    Calls Try.prog 56 #[.pointer (some ⟨b, 0, none⟩), .int .i64 0] w fun e w' => e = .returned (.tuple #[]) ∧ Went lo hi b { s with ls := wipeIf (pJ s.r s.k) s.ls } w w' := by
  obtain ⟨h, g, hs, cs, o, H⟩ := H
  have C := Lib.hid (wipeRow_0 lo hi b h g s hs cs o w H)
  clear H
  go_enter Try.func56, Try.ntmps56
  go_wp2_with fail
  go_at_call 57
  refine C.out.mono ?_
  rintro e w1 ⟨rfl, ⟨h, g, hs, cs, o, H⟩, hT⟩
  obtain ⟨n, m, ls0, r, k, esc, pm⟩ := s
  have HT := Lib.hid hT
  have HH := Lib.hid H
  obtain ⟨_, _, a2, a3, _⟩ := H.ten
  have hc := H.ok.cur
  have hz := H.ok.size
  dsimp only at hc hz a2 a3
  obtain ⟨hr, hk⟩ := hc
  clear H hT C
  obtain ⟨q, hq⟩ : ∃ q, q = n - (r + 1) := ⟨_, rfl⟩
  have hnq : n = (r + 1) + q := by omega
  have hwr : IntKind.i64.wrap ((r : Int) + 1) = (r : Int) + 1 := by rw [IntKind.wrap_i64]; omega
  have hT : ∀ W, (Instr.slice 32 (.slice (some ⟨h, 0, none⟩) n n) (some (.int .i64 ((r : Int) + 1))) none none).run Try.prog W = .ok (.slice (tailA (some ⟨h, 0, none⟩) n (r + 1)) q (n - (r + 1))) W := fun W => tail_rows (some ⟨h, 0, none⟩) n n (r + 1) q hnq W
  have HS := Lib.hid (fun W (hW : W.heap = w1.heap) => sts_tail (HH.out.same (w' := W) hW) (r + 1) q hnq)
  have HQ := Lib.hid hnq
  have hq9 : q ≤ 60 := by omega
  clear hnq hq
  generalize tailA (some ⟨h, 0, none⟩) n (r + 1) = T at hT HS
  generalize n - (r + 1) = d at hT
  go_wp2_with fail
  go_still_tail 12, (by kernel_rfl)
  change wpList _ _ _ _ _ w1.drew
  have HV := Lib.hid (HH.out.same (w' := w1.drew) rfl)
  go_wp2_with fail
  go_at_call 47
  refine (wipe_is _ q d g (stp o m (r + 1) q) cs _ (stp_len _ _ _ _).symm (by omega) HV.out.wr.data (HS.out _ rfl)).mono ?_
  rintro e w' ⟨rfl, hD⟩
  have FIN : Hid (Went lo hi b ⟨n, m, wipeIf (pJ r k) ls0, r, k, esc, pm⟩ w w') := Lib.hid ⟨by
      have := (HV.out.wiped (p := fun i j => decide (r < i)) hD (fun i j hi hj => (stp_in HH.out (r + 1) q (by have := HQ.out; dsimp only; omega) i j hi hj).trans (by
        rw [Bool.eq_iff_iff]; simp only [Bool.and_eq_true, decide_eq_true_eq]; have := HQ.out; dsimp only at hi; omega))).vt
      have e : wipeIf (pJ r k) ls0 = wipeIf (fun i j => decide (r < i)) (wipeIf (p0 r k) ls0) := by rw [wipeIf_two]; rfl
      rw [e]
      exact this, HT.out.trans (((Tn.refl lo hi w1).drew).trans (Tn.of_but hD.2 HH.out.gg.1 HH.out.gg.2))⟩
  clear hD
  go_wp2
  go_end0
  exact ⟨rfl, FIN.out⟩
set_option maxHeartbeats 4000000 in
set_option maxRecDepth 100000 in
/-- All cells. -/
theorem wipeScreen_2 (lo hi b : Nat) (s : Ts) (w : World) (H : Vt w lo hi b s) :
    Calls Try.prog 56 #[.pointer (some ⟨b, 0, none⟩), .int .i64 2] w fun e w' => e = .returned (.tuple #[]) ∧ Went lo hi b { s with ls := wipeIf pA s.ls } w w' := by
  obtain ⟨h, g, hs, cs, o, H⟩ := H
  obtain ⟨n, m, ls, r, k, esc, pm⟩ := s
  have HH := Lib.hid H
  obtain ⟨_, _, a2, a3, _⟩ := H.ten
  have hz := H.ok.size
  dsimp only at hz a2 a3
  clear H
  go_enter Try.func56, Try.ntmps56
  go_wp2_with fail
  go_at_call 47
  refine (wipe_is _ n n g (stp o m 0 n) cs _ (stp_len _ _ _ _).symm (by omega) HH.out.wr.data (sts_rows HH.out 0 n (by dsimp only; omega))).mono ?_
  rintro e w' ⟨rfl, hD⟩
  have FIN : Hid (Went lo hi b ⟨n, m, wipeIf pA ls, r, k, esc, pm⟩ w w') := Lib.hid ⟨(HH.out.wiped (p := pA) hD (fun i j hi hj => (stp_in HH.out 0 n (by dsimp only; omega) i j hi hj).trans (by
        rw [Bool.eq_iff_iff]; simp only [Bool.and_eq_true, decide_eq_true_eq, pA, iff_true]; dsimp only at hi; omega))).vt, Tn.of_but hD.2 HH.out.gg.1 HH.out.gg.2⟩
  clear hD
  go_wp2
  go_end0
  exact ⟨rfl, FIN.out⟩
set_option maxHeartbeats 4000000 in
set_option maxRecDepth 100000 in
/-- Any other number: nothing. -/
theorem wipeScreen_x (b : Nat) (w : World) (z : Int) (h0 : z ≠ 0) (h2 : z ≠ 2) :
    Calls Try.prog 56 #[.pointer (some ⟨b, 0, none⟩), .int .i64 z] w fun e w' => e = .returned (.tuple #[]) ∧ w = w' := by
  have q0 : (z == 0) = false := by simpa using h0
  have q2 : (z == 2) = false := by simpa using h2
  clear h0 h2
  go_enter Try.func56, Try.ntmps56
  go_wp2
  go_end0
  exact ⟨rfl, rfl⟩
end Go.Proofs.Yteekihhngjbjgaa.vtt
