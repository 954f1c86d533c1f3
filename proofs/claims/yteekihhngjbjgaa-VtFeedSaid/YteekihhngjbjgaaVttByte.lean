/- Terminals: one byte: show, begin, goOn; Feed. -/
import Derived.Test.YteekihhngjbjgaaVttObey
import Derived.Laws.EntriesVeiled
namespace Go.Proofs.Yteekihhngjbjgaa.vtt
open Go.RowKit Go.Lib Go.Proofs.Yteekihhngjbjgaa.grd
set_option linter.unusedVariables false
set_option linter.unusedSimpArgs false
set_option linter.unnecessarySimpa false
set_option linter.unusedSectionVars false

section
variable {lo hi b h g : Nat} {s s' : Ts} {hs cs : Array Value} {o : Nat → Nat} {w w' : World} {c : UInt8}
def Stepped (f : Ts → UInt8 → Ts) (lo hi b : Nat) (s : Ts) (c : UInt8) (w w' : World) : Prop := Went lo hi b (f s c) w w'
theorem fnv0 : fnv 0 = .func (.func 25) #[] #[] := rfl
theorem fnv1 : fnv 1 = .func (.func 38) #[] #[] := rfl
theorem fnv2 : fnv 2 = .func (.func 46) #[] #[] := rfl
end
set_option maxHeartbeats 4000000 in
set_option maxRecDepth 100000 in
theorem show_27 (lo hi b h g : Nat) (s : Ts) (hs cs : Array Value) (o : Nat → Nat) (w : World) (H : Vb w lo hi b h g s hs cs o) :
    Calls Try.prog 25 #[.pointer (some ⟨b, 0, none⟩), .int .u8 27] w fun e w' => e = .returned (.tuple #[]) ∧ Went lo hi b { s with esc := 1 } w w' := by
  obtain ⟨n, m, ls, r, k, esc, pm⟩ := s
  have HH := Lib.hid H
  have a5 := H.ten.2.2.2.2.2.1
  have f5 := H.frozen 5
  have FIN : Hid (Went lo hi b ⟨n, m, ls, r, k, 1, pm⟩ w (w.setCell ⟨b, 5, none⟩ (.func (.func 38) #[] #[]))) := Lib.hid (H.went ((But.refl b w).setCell 5 _) (H.blk.set 5 _) (H.ok.esc' (by omega)) rfl rfl rfl)
  clear H
  go_enter Try.func25, Try.ntmps25
  go_wp2
  go_end0
  exact ⟨rfl, FIN.out⟩
set_option maxHeartbeats 4000000 in
set_option maxRecDepth 100000 in
theorem show_13 (lo hi b h g : Nat) (s : Ts) (hs cs : Array Value) (o : Nat → Nat) (w : World) (H : Vb w lo hi b h g s hs cs o) :
    Calls Try.prog 25 #[.pointer (some ⟨b, 0, none⟩), .int .u8 13] w fun e w' => e = .returned (.tuple #[]) ∧ Went lo hi b { s with k := 0 } w w' := by
  obtain ⟨n, m, ls, r, k, esc, pm⟩ := s
  have HH := Lib.hid H
  have a4 := H.ten.2.2.2.2.1
  have f4 := H.frozen 4
  have FIN : Hid (Went lo hi b ⟨n, m, ls, r, 0, esc, pm⟩ w (w.setCell ⟨b, 4, none⟩ (.int .i64 0))) := Lib.hid (H.went ((But.refl b w).setCell 4 _) (H.blk.set 4 _) (H.ok.cursor (r := r) (k := 0) H.ok.cur.1 (by have := H.ok.size; dsimp only at this ⊢; omega)) rfl rfl rfl)
  clear H
  go_enter Try.func25, Try.ntmps25
  go_wp2
  go_end0
  exact ⟨rfl, FIN.out⟩
set_option maxHeartbeats 4000000 in
set_option maxRecDepth 100000 in
theorem show_10 (lo hi b : Nat) (s : Ts) (w : World) (H : Vt w lo hi b s) :
    Calls Try.prog 25 #[.pointer (some ⟨b, 0, none⟩), .int .u8 10] w fun e w' => e = .returned (.tuple #[]) ∧ Went lo hi b (down s) w w' := by
  have C := Lib.hid (down_is lo hi b s w H)
  clear H
  go_enter Try.func25, Try.ntmps25
  go_wp2_with fail
  go_at_call 39
  refine C.out.mono ?_
  rintro e w' ⟨rfl, hW⟩
  have HW := Lib.hid hW
  clear hW C
  go_wp2
  go_end0
  exact ⟨rfl, HW.out⟩
set_option maxHeartbeats 4000000 in
set_option maxRecDepth 100000 in
theorem show_8 (lo hi b h g : Nat) (s : Ts) (hs cs : Array Value) (o : Nat → Nat) (w : World) (H : Vb w lo hi b h g s hs cs o) :
    Calls Try.prog 25 #[.pointer (some ⟨b, 0, none⟩), .int .u8 8] w fun e w' => e = .returned (.tuple #[]) ∧ Went lo hi b { s with k := s.k - 1 } w w' := by
  obtain ⟨n, m, ls, r, k, esc, pm⟩ := s
  have HH := Lib.hid H
  have a4 := H.ten.2.2.2.2.1
  have f4 := H.frozen 4
  dsimp only at a4
  have hcu := H.ok.cur
  have hz := H.ok.size
  dsimp only at hcu hz
  obtain ⟨q, hq⟩ : ∃ q, q = k - 1 := ⟨_, rfl⟩
  have hqi : max ((k : Int) - 1) 0 = (q : Int) := by rw [hq]; omega
  have FIN : Hid (Went lo hi b ⟨n, m, ls, r, k - 1, esc, pm⟩ w (w.setCell ⟨b, 4, none⟩ (.int .i64 q))) := Lib.hid (by
    refine H.went ((But.refl b w).setCell 4 _) ?_ (H.ok.cursor (r := r) (k := k - 1) H.ok.cur.1 (by dsimp only; omega)) rfl rfl rfl
    rw [hq]; exact H.blk.set 4 _)
  clear H hq
  go_enter Try.func25, Try.ntmps25
  go_wp2
  go_end0
  exact ⟨rfl, FIN.out⟩
set_option maxHeartbeats 4000000 in
set_option maxRecDepth 100000 in
/-- A byte that is put. -/
theorem show_put (lo hi b h g : Nat) (s : Ts) (hs cs : Array Value) (o : Nat → Nat) (c : UInt8) (w : World) (hc : 32 ≤ c.toNat ∧ c.toNat ≤ 126) (H : Vb w lo hi b h g s hs cs o) :
    Calls Try.prog 25 #[.pointer (some ⟨b, 0, none⟩), .int .u8 (c.toNat : Int)] w fun e w' => e = .returned (.tuple #[]) ∧ Went lo hi b { s with ls := setAt s.ls s.r s.k c, k := min (s.k + 1) (s.m - 1) } w w' := by
  obtain ⟨n, m, ls, r, k, esc, pm⟩ := s
  have HH := Lib.hid H
  obtain ⟨_, a1, a2, a3, a4, _⟩ := H.ten
  have hcu := H.ok.cur
  have hz := H.ok.size
  dsimp only at a1 a2 a3 a4 hcu hz
  obtain ⟨hr, hk⟩ := hcu
  have l1 : w.cell? ⟨h, r, none⟩ = some (.slice (some ⟨g, o r, none⟩) m m) := by rw [H.wr.list.cell, H.wr.row r hr]
  have hbd := H.wr.bound r hr (by dsimp only; omega)
  dsimp only at hbd
  have hcell : w.cell? ⟨g, o r + k, none⟩ = some (cs[o r + k]'(by omega)) := by rw [H.wr.data.cell, Array.getElem?_eq_getElem (by omega)]
  generalize cs[o r + k]'(by omega) = old at hcell
  have fg := H.wr.data.frozen (o r + k)
  have HV2 : Hid (Vb (w.setCell ⟨g, o r + k, none⟩ (.int .u8 (c.toNat : Int))).drew lo hi b h g ⟨n, m, setAt ls r k c, r, k, esc, pm⟩ hs (cs.setIfInBounds (o r + k) (u8 c)) o) := Lib.hid (by
    have H' := H
    refine Vb.same (w := w.setCell ⟨g, o r + k, none⟩ (.int .u8 (c.toNat : Int))) ?_ rfl
    refine ⟨⟨H.ok.size, by rw [setAt_len]; exact H.ok.len, setAt_row H.ok.row _ _ _ (okB_iff.2 hc), H.ok.cur, H.ok.par, H.ok.esc⟩, H'.blk.far (p := ⟨g, o r + k, none⟩) H.bg _, H'.wr.put H.hg r k hr hk c, H.bb, H.hh, H.gg, H.bh, H.bg, H.hg, by simp [World.setCell]; exact H.sz⟩)
  have HT2 : Hid (Tn lo hi w (w.setCell ⟨g, o r + k, none⟩ (.int .u8 (c.toNat : Int))).drew) := Lib.hid (Tn.of_but ((But.refl g w).setCell (o r + k) (.int .u8 (c.toNat : Int))).drew H.gg.1 H.gg.2)
  obtain ⟨q, hq⟩ : ∃ q, q = min (k + 1) (m - 1) := ⟨_, rfl⟩
  have hqi : min ((k : Int) + 1) ((m : Int) - 1) = (q : Int) := by rw [hq]; omega
  have hw1 : IntKind.i64.wrap ((k : Int) + 1) = (k : Int) + 1 := by rw [IntKind.wrap_i64]; omega
  have hw2 : IntKind.i64.wrap ((m : Int) - 1) = (m : Int) - 1 := by rw [IntKind.wrap_i64]; omega
  have hqm : q < m := by omega
  have HQ := Lib.hid hq
  obtain ⟨hc1, hc2⟩ := hc
  have e27 : ((c.toNat : Int) == 27) = false := by simp; omega
  have e13 : ((c.toNat : Int) == 13) = false := by simp; omega
  have e10 : ((c.toNat : Int) == 10) = false := by simp; omega
  have e8 : ((c.toNat : Int) == 8) = false := by simp; omega
  clear H hq hbd
  go_enter Try.func25, Try.ntmps25
  go_wp2_with fail
  go_still_tail 15, (by kernel_rfl)
  change wpList _ _ _ _ _ w.drew
  go_wp2_with fail
  generalize (w.setCell ⟨g, o r + k, none⟩ (.int .u8 (c.toNat : Int))).drew = w2 at HV2 HT2 ⊢
  clear a1 a2 a3 a4 l1 hcell fg
  obtain ⟨_, a1, _, _, a4, _⟩ := HV2.out.ten
  have f4 := HV2.out.frozen 4
  dsimp only at a1 a4
  have FIN : Hid (Went lo hi b ⟨n, m, setAt ls r k c, r, min (k + 1) (m - 1), esc, pm⟩ w (w2.drew.setCell ⟨b, 4, none⟩ (.int .i64 q))) := Lib.hid (Went.trans HT2.out (by
    refine HV2.out.went ((But.refl b w2).drew.setCell 4 _) ?_ (HV2.out.ok.cursor (r := r) (k := min (k + 1) (m - 1)) hr (by rw [← HQ.out]; exact hqm)) rfl rfl rfl
    rw [HQ.out]; exact (HV2.out.same (w' := w2.drew) rfl).blk.set 4 _))
  go_still_tail 12, (by kernel_rfl)
  change wpList _ _ _ _ _ w2.drew
  go_wp2
  go_end0
  exact ⟨rfl, FIN.out⟩
set_option maxHeartbeats 4000000 in
set_option maxRecDepth 100000 in
/-- Any other byte: nothing. -/
theorem show_x (lo hi b : Nat) (s : Ts) (x : Nat) (w : World) (e27 : x ≠ 27) (e13 : x ≠ 13) (e10 : x ≠ 10) (e8 : x ≠ 8) (hx : ¬ (32 ≤ x ∧ x ≤ 126)) (H : Vt w lo hi b s) :
    Calls Try.prog 25 #[.pointer (some ⟨b, 0, none⟩), .int .u8 (x : Int)] w fun e w' => e = .returned (.tuple #[]) ∧ Went lo hi b s w w' := by
  have HH := Lib.hid H
  have q27 : ((x : Int) == 27) = false := by simp; omega
  have q13 : ((x : Int) == 13) = false := by simp; omega
  have q10 : ((x : Int) == 10) = false := by simp; omega
  have q8 : ((x : Int) == 8) = false := by simp; omega
  clear H e27 e13 e10 e8
  by_cases h1 : 32 ≤ x
  · have d1 : decide ((32 : Int) ≤ (x : Int)) = true := by simp; omega
    have d2 : decide ((x : Int) ≤ 126) = false := by simp; omega
    clear hx
    go_enter Try.func25, Try.ntmps25
    go_wp2
    go_end0
    exact ⟨rfl, HH.out, Tn.refl _ _ _⟩
  · have d1 : decide ((32 : Int) ≤ (x : Int)) = false := by simp; omega
    clear hx
    go_enter Try.func25, Try.ntmps25
    go_wp2
    go_end0
    exact ⟨rfl, HH.out, Tn.refl _ _ _⟩
theorem show_is (lo hi b : Nat) (s : Ts) (c : UInt8) (w : World) (H : Vt w lo hi b s) :
    Calls Try.prog 25 #[.pointer (some ⟨b, 0, none⟩), .int .u8 (c.toNat : Int)] w fun e w' => e = .returned (.tuple #[]) ∧ Went lo hi b (show' s c) w w' := by
  obtain ⟨h, g, hs, cs, o, H'⟩ := id H
  unfold show'
  by_cases h27 : c.toNat = 27
  · rw [if_pos h27, h27]; exact show_27 lo hi b h g s hs cs o w H'
  rw [if_neg h27]
  by_cases h13 : c.toNat = 13
  · rw [if_pos h13, h13]; exact show_13 lo hi b h g s hs cs o w H'
  rw [if_neg h13]
  by_cases h10 : c.toNat = 10
  · rw [if_pos h10, h10]; exact show_10 lo hi b s w H
  rw [if_neg h10]
  by_cases h8 : c.toNat = 8
  · rw [if_pos h8, h8]; exact show_8 lo hi b h g s hs cs o w H'
  rw [if_neg h8]
  by_cases hp : 32 ≤ c.toNat ∧ c.toNat ≤ 126
  · rw [if_pos hp]; exact show_put lo hi b h g s hs cs o c w hp H'
  rw [if_neg hp]
  exact show_x lo hi b s c.toNat w h27 h13 h10 h8 hp H
set_option maxHeartbeats 4000000 in
set_option maxRecDepth 100000 in
theorem begin_is (lo hi b : Nat) (s : Ts) (c : UInt8) (w : World) (H : Vt w lo hi b s) :
    Calls Try.prog 38 #[.pointer (some ⟨b, 0, none⟩), .int .u8 (c.toNat : Int)] w fun e w' => e = .returned (.tuple #[]) ∧ Went lo hi b (begin' s c) w w' := by
  obtain ⟨h, g, hs, cs, o, H⟩ := H
  obtain ⟨n, m, ls, r, k, esc, pm⟩ := s
  have HH := Lib.hid H
  obtain ⟨_, _, _, _, _, a5, a6, a7, a8, a9⟩ := H.ten
  have f5 := H.frozen 5
  have f6 := H.frozen 6
  have f7 := H.frozen 7
  have f8 := H.frozen 8
  have f9 := H.frozen 9
  clear H
  by_cases h27 : c.toNat = 27
  · have e : begin' ⟨n, m, ls, r, k, esc, pm⟩ c = ⟨n, m, ls, r, k, esc, pm⟩ := by unfold begin'; rw [if_pos h27]
    rw [e, h27]
    clear h27 e
    go_enter Try.func38, Try.ntmps38
    go_wp2
    go_end0
    exact ⟨rfl, HH.out.vt, Tn.refl _ _ _⟩
  · by_cases h91 : c.toNat = 91
    · have e : begin' ⟨n, m, ls, r, k, esc, pm⟩ c = ⟨n, m, ls, r, k, 2, Pm.zero⟩ := by unfold begin'; rw [if_neg h27, if_pos h91]
      have FIN : Hid (Went lo hi b ⟨n, m, ls, r, k, 2, Pm.zero⟩ w (((((w.setCell ⟨b, 6, none⟩ (.int .i64 0)).setCell ⟨b, 7, none⟩ (.int .i64 0)).setCell ⟨b, 8, none⟩ (.int .i64 0)).setCell ⟨b, 9, none⟩ (.bool false)).setCell ⟨b, 5, none⟩ (.func (.func 46) #[] #[]))) := Lib.hid (HH.out.went ((((((But.refl b w).setCell 6 _).setCell 7 _).setCell 8 _).setCell 9 _).setCell 5 _) (((((HH.out.blk.set 6 (.int .i64 0)).set 7 (.int .i64 0)).set 8 (.int .i64 0)).set 9 (.bool false)).set 5 (.func (.func 46) #[] #[])) ⟨HH.out.ok.size, HH.out.ok.len, HH.out.ok.row, HH.out.ok.cur, by simp [Pm.zero], by simp⟩ rfl rfl rfl)
      rw [e, h91]
      clear h27 h91 e
      go_enter Try.func38, Try.ntmps38
      go_wp2
      go_end0
      exact ⟨rfl, FIN.out⟩
    · have e : begin' ⟨n, m, ls, r, k, esc, pm⟩ c = ⟨n, m, ls, r, k, 0, pm⟩ := by unfold begin'; rw [if_neg h27, if_neg h91]
      have FIN : Hid (Went lo hi b ⟨n, m, ls, r, k, 0, pm⟩ w (w.setCell ⟨b, 5, none⟩ (.func (.func 25) #[] #[]))) := Lib.hid (HH.out.went ((But.refl b w).setCell 5 _) (HH.out.blk.set 5 _) (HH.out.ok.esc' (by omega)) rfl rfl rfl)
      have q27 : ((c.toNat : Int) == 27) = false := by simp; omega
      have q91 : ((c.toNat : Int) == 91) = false := by simp; omega
      rw [e]
      clear h27 h91 e
      go_enter Try.func38, Try.ntmps38
      go_wp2
      go_end0
      exact ⟨rfl, FIN.out⟩
set_option maxHeartbeats 4000000 in
set_option maxRecDepth 100000 in
theorem goOn_is (lo hi b : Nat) (s : Ts) (c : UInt8) (w : World) (H : Vt w lo hi b s) :
    Calls Try.prog 46 #[.pointer (some ⟨b, 0, none⟩), .int .u8 (c.toNat : Int)] w fun e w' => e = .returned (.tuple #[]) ∧ Went lo hi b (goOn s c) w w' := by
  have CT := Lib.hid (take_is lo hi b s c w H)
  obtain ⟨h, g, hs, cs, o, H⟩ := H
  obtain ⟨n, m, ls, r, k, esc, pm⟩ := s
  have HH := Lib.hid H
  obtain ⟨_, _, _, _, _, a5, _⟩ := H.ten
  have f5 := H.frozen 5
  clear H
  have hx256 : c.toNat < 256 := c.toNat_lt
  by_cases h27 : c.toNat = 27
  · have e : goOn ⟨n, m, ls, r, k, esc, pm⟩ c = ⟨n, m, ls, r, k, 1, pm⟩ := by unfold goOn; rw [if_pos h27]
    have FIN : Hid (Went lo hi b ⟨n, m, ls, r, k, 1, pm⟩ w (w.setCell ⟨b, 5, none⟩ (.func (.func 38) #[] #[]))) := Lib.hid (HH.out.went ((But.refl b w).setCell 5 _) (HH.out.blk.set 5 _) (HH.out.ok.esc' (by omega)) rfl rfl rfl)
    rw [e, h27]
    clear h27 e CT
    go_enter Try.func46, Try.ntmps46
    go_wp2
    go_end0
    exact ⟨rfl, FIN.out⟩
  · have q27 : ((c.toNat : Int) == 27) = false := by simp; omega
    by_cases hp : 32 ≤ c.toNat ∧ c.toNat < 64
    · have e : goOn ⟨n, m, ls, r, k, esc, pm⟩ c = ⟨n, m, ls, r, k, esc, take pm c⟩ := by unfold goOn; rw [if_neg h27, if_pos hp]
      rw [e]
      obtain ⟨h1, h2⟩ := hp
      clear h27 e
      go_enter Try.func46, Try.ntmps46
      go_wp2_with fail
      go_at_call 52
      refine CT.out.mono ?_
      rintro e w' ⟨rfl, hW⟩
      have HW := Lib.hid hW
      clear hW CT
      go_wp2
      go_end0
      exact ⟨rfl, HW.out⟩
    · have e : goOn ⟨n, m, ls, r, k, esc, pm⟩ c = obey ⟨n, m, ls, r, k, 0, pm⟩ c := by unfold goOn; rw [if_neg h27, if_neg hp]
      have HV : Hid (Went lo hi b ⟨n, m, ls, r, k, 0, pm⟩ w (w.setCell ⟨b, 5, none⟩ (.func (.func 25) #[] #[]))) := Lib.hid (HH.out.went ((But.refl b w).setCell 5 _) (HH.out.blk.set 5 _) (HH.out.ok.esc' (by omega)) rfl rfl rfl)
      have CO := Lib.hid (obey_is lo hi b _ c _ HV.out.1)
      rw [e]
      clear h27 e CT
      by_cases h1 : 32 ≤ c.toNat
      · have d1 : decide ((32 : Int) ≤ (c.toNat : Int)) = true := by simp; omega
        have d2 : decide ((c.toNat : Int) < 64) = false := by simp; omega
        clear hp
        go_enter Try.func46, Try.ntmps46
        go_wp2_with fail
        go_at_call 53
        refine CO.out.mono ?_
        rintro e w' ⟨rfl, hW⟩
        have HW := Lib.hid hW
        clear hW CO
        go_wp2
        go_end0
        exact ⟨rfl, Went.trans HV.out.2 HW.out⟩
      · have d1 : decide ((32 : Int) ≤ (c.toNat : Int)) = false := by simp; omega
        clear hp
        go_enter Try.func46, Try.ntmps46
        go_wp2_with fail
        go_at_call 53
        refine CO.out.mono ?_
        rintro e w' ⟨rfl, hW⟩
        have HW := Lib.hid hW
        clear hW CO
        go_wp2
        go_end0
        exact ⟨rfl, Went.trans HV.out.2 HW.out⟩
end Go.Proofs.Yteekihhngjbjgaa.vtt
