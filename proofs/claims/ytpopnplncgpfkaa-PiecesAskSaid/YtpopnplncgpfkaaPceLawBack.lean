/- PiecesBack, walked. -/
import Derived.Test.YtpopnplncgpfkaaPceLawMany
namespace Go.Proofs.Ytpopnplncgpfkaa.pce
open Go.RowKit Go.Lib
set_option linter.unusedVariables false
set_option linter.unusedSimpArgs false
set_option linter.unnecessarySimpa false
set_option linter.unusedSectionVars false

abbrev Ls (w : World) (A : Option Addr) (n c : Nat) (zs : List ByteArray) : Prop := Lst w (fun _ => True) A n c zs
theorem Lst.any {w : World} {F : Nat → Prop} {A : Option Addr} {n c : Nat} {zs : List ByteArray} (h : Lst w F A n c zs) : Ls w A n c zs := h.mono fun _ _ _ => trivial
theorem Lst.drew {w : World} {F : Nat → Prop} {A : Option Addr} {n c : Nat} {zs : List ByteArray} (h : Lst w F A n c zs) : Lst w.drew F A n c zs := ⟨h.len, h.room, h.nil, h.row⟩

/-- Lines, wherever between w0 and later it is asked for. -/
theorem lines_at (w0 : World) (v : Value) (ps : List Pc) (h : Tb w0 v ps) (a u : Int) (ha1 : -9223372036854775808 ≤ a) (ha2 : a ≤ 9223372036854775807) (hu1 : -9223372036854775808 ≤ u) (hu2 : u ≤ 9223372036854775807) (zs : List ByteArray) (hz : zs = ((texts ps).take u.toNat).drop (a - 1).toNat) (W : World) (hW : More w0.heap.size w0 W) :
    Calls Try.prog 26 #[v, .int .i64 a, .int .i64 u] W fun e w' => ∃ A n c, e = .returned (.slice A n c) ∧ Ls w' A n c zs ∧ More w0.heap.size w0 w' := by
  subst hz
  refine (lines_is W _ v ps a u ha1 ha2 hu1 hu2 (h.below hW)).mono ?_
  rintro e w' ⟨x, rfl, hR⟩
  obtain ⟨A, n, c, rfl, hL, hB⟩ := hR.lst
  exact ⟨A, n, c, rfl, hL.any, hW.to.trans (hB.mono hW.to.size)⟩
/-- All lines, likewise. -/
theorem all_at (w0 : World) (v : Value) (ps : List Pc) (h : Tb w0 v ps) (zs : List ByteArray) (hz : zs = texts ps) (W : World) (hW : More w0.heap.size w0 W) :
    Calls Try.prog 20 #[v] W fun e w' => ∃ A n c, e = .returned (.slice A n c) ∧ Ls w' A n c zs ∧ More w0.heap.size w0 w' := by
  subst hz
  refine (lawAll_is W _ v ps (h.below hW)).mono ?_
  rintro e w' ⟨x, rfl, hR⟩
  obtain ⟨A, n, c, rfl, hL, hB⟩ := hR.lst
  exact ⟨A, n, c, rfl, hL.any, hW.to.trans (hB.mono hW.to.size)⟩
/-- Two lists of the same lines, one of them known at w0. -/
theorem same_at (w0 : World) (A1 : Option Addr) (n1 c1 : Nat) (zs : List ByteArray) (h1 : Ls w0 A1 n1 c1 zs) (hl : zs.length ≤ 100000) (A2 : Option Addr) (n2 c2 : Nat) (W : World) (h2 : Ls W A2 n2 c2 zs) (hW : More w0.heap.size w0 W) :
    Calls Try.prog 19 #[.slice A2 n2 c2, .slice A1 n1 c1] W fun e w' => e = .returned (.bool true) ∧ More w0.heap.size w0 w' := by
  refine (same12_b A2 A1 c2 c1 n2 n1 zs zs W true h2.len h1.len (by rw [h2.len]; exact hl) (by rw [h1.len]; exact hl) (by simp) h2.srd (h1.below hW.to).srd).mono ?_
  rintro e w' ⟨rfl, hB⟩
  exact ⟨rfl, hW.to.trans (hB.mono hW.to.size)⟩
theorem does_at (w0 W : World) (hW : More w0.heap.size w0 W) :
    Calls Try.prog 16 #[] W fun e w' => e = .returned (.bool true) ∧ More w0.heap.size w0 w' := by
  refine (does_is W).mono ?_
  rintro e w' ⟨rfl, hB⟩
  exact ⟨rfl, hW.to.trans (hB.mono hW.to.size)⟩

/-- A splice that may be, of a list that was told just ahead of it. -/
theorem splice_with (w0 : World) (v : Value) (ps : List Pc) (h : Tb w0 v ps) (x m : Nat) (ins L : List ByteArray) (hle : x + m ≤ (texts ps).length) (hf : Fine ins) (hL : spl (texts ps) x m ins = L) (hl : L.length ≤ 2000) (hi : ins.length ≤ 100000) (A : Option Addr) (n c : Nat) (W : World) (hA : Ls W A n c ins) (hW : More w0.heap.size w0 W) :
    Calls Try.prog 17 #[v, .int .i64 x, .int .i64 m, .slice A n c] W fun e w' => ∃ b ps', e = .returned (.tuple #[.pointer (some ⟨b, 0, none⟩), .int .i64 0]) ∧ Tb w' (.pointer (some ⟨b, 0, none⟩)) ps' ∧ Hid (texts ps' = L) ∧ More w0.heap.size w0 w' := by
  have hz := hW.to.size
  refine (splice_yes W _ v ps x m A n c ins hA.len (by rw [hA.len]; exact hi) hA.nil hA.srd (h.below hW) hle hf (by rw [hL]; exact hl)).mono ?_
  rintro e w' ⟨v', ps', rfl, hT, hx, _, hB⟩
  obtain ⟨b, rfl⟩ := hT.ptr
  exact ⟨b, ps', rfl, hT.any, hx.trans hL, hW.to.trans (hB.mono hz)⟩
theorem cuts_one (w : World) (F : Nat → Prop) (t : Ct) (ht : CtOk w F t) : Cuts (w.alloc (.cells #[.int .i64 t.a, .int .i64 t.d, .slice t.A t.ins.length t.c] 34)) (fun _ => True) (some ⟨w.heap.size, 0, none⟩) [t] := by
  have hA := At.new w 34 #[.int .i64 t.a, .int .i64 t.d, .slice t.A t.ins.length t.c]
  refine ⟨fun _ => ⟨w.heap.size, 0, rfl, trivial, hA.lt, fun j u hj => ?_⟩, fun t' ht' => ?_⟩
  · rw [Nat.zero_add, hA.cell, ← hj]
    simp [flat, Ct.cells]
  · rw [List.mem_singleton.1 ht']
    have h := ht.keep (w' := w.alloc (.cells #[.int .i64 t.a, .int .i64 t.d, .slice t.A t.ins.length t.c] 34)) (fun b _ hb => Below.heap_alloc _ _ _ hb) (by simp)
    exact ⟨h.a1, h.a2, h.d1, h.d2, h.lst.any, h.size, h.few⟩
theorem held4' {P Q R : Prop} {n : Nat} {wb W : World} (h : P ∧ Q ∧ R ∧ More n wb W) : More n wb W := h.2.2.2

set_option maxHeartbeats 4000000 in
set_option maxRecDepth 100000 in
theorem law7 (A : Option Addr) (n c : Nat) (zs : List ByteArray) (t : Ct) (w : World) (h : InL w A n c zs) (ht : CtOk w (· < w.heap.size) t) :
    Calls Try.prog 7 #[.slice A n c, .agg #[.int .i64 t.a, .int .i64 t.d, .slice t.A t.ins.length t.c]] w fun e w' => e = .returned (.bool true) ∧ Below w.heap.size w w' := by
  have C1 := Lib.hid (fun (W : World) (hW : Below w.heap.size w W) => (great A c w.heap.size n 500 20000 zs W h.lst.len (by have := h.few; unfold maxLen at this; omega) (by omega) (by omega) h.size (h.lst.srd.below hW)))
  have HI := Lib.hid h
  have HT := Lib.hid ht
  obtain ⟨ta, hta⟩ : ∃ ta, t.a = ta := ⟨_, rfl⟩
  obtain ⟨td, htd⟩ : ∃ td, t.d = td := ⟨_, rfl⟩
  obtain ⟨tm, htm⟩ : ∃ tm, t.ins.length = tm := ⟨_, rfl⟩
  have E := Lib.hid (And.intro hta (And.intro htd htm))
  have hb := ht.few
  have b1 := ht.a1
  have b2 := ht.a2
  have b3 := ht.d1
  have b4 := ht.d2
  unfold maxLen at hb
  rw [hta] at b1 b2 ⊢
  rw [htd] at b3 b4 ⊢
  rw [htm] at hb ⊢
  clear h ht hta htd htm
  go_enter Try.func7, Try.ntmps7
  go_wp2_with fail
  go_at_call 10
  refine (C1.out _ ((Below.refl _ _).alloc (Nat.le_refl _) _)).mono ?_
  rintro e w1 ⟨hg, hw1⟩
  have P1 := Lib.hid (show At w1 w.heap.size 34 #[.int .i64 ta, .int .i64 td, .slice t.A tm t.c] by rw [← hw1]; exact At.new _ _ _)
  have B1 := Lib.hid (show Below w.heap.size w w1 by rw [← hw1]; exact (Below.refl _ _).alloc (Nat.le_refl _) _)
  have hz1 : w.heap.size < w1.heap.size := P1.out.lt
  clear hw1 C1
  have d0 := P1.out.cell 0
  have d1 := P1.out.cell 1
  have d2 := P1.out.cell 2
  simp at d0 d1 d2
  rcases hg with rfl | ⟨rfl, g1, g2⟩
  · go_wp2
    all_goals
      go_ret
      exact ⟨rfl, B1.out⟩
  have hn5 : n ≤ 500 := by rw [HI.out.lst.len]; exact g1
  clear g1 g2
  go_wp2_with fail
  go_at_call 11
  have C2 := Lib.hid (much_is _ _ _ 1 1 [t] rfl (by unfold maxLen; omega) (cuts_one w1 _ t (HT.out.keep (fun b hb _ => B1.out.block b hb) (by omega))))
  rw [E.out.1, E.out.2.1, E.out.2.2] at C2
  refine C2.out.mono ?_
  rintro e w2 ⟨hg, hw2⟩
  have P2 := Lib.hid (show At w2 w.heap.size 34 #[.int .i64 ta, .int .i64 td, .slice t.A tm t.c] by rw [← hw2]; exact P1.out.alloc _)
  have B2 := Lib.hid (show Below w.heap.size w w2 by rw [← hw2]; exact B1.out.alloc (by omega) _)
  have hz2 : w1.heap.size < w2.heap.size := by rw [← hw2]; simp
  clear hw2 C2 P1 B1 d0 d1 d2
  have d0 := P2.out.cell 0
  have d1 := P2.out.cell 1
  have d2 := P2.out.cell 2
  simp at d0 d1 d2
  rcases hg with rfl | ⟨rfl, _, g2⟩
  · go_wp2
    all_goals
      go_ret
      exact ⟨rfl, B2.out⟩
  have htm : tm ≤ 2100 := by rw [← E.out.2.2]; exact (g2 t (by simp)).1
  clear g2
  by_cases hf : Fine zs
  · have HFZ := Lib.hid hf
    go_wp2_with fail
    go_at_call 13
    refine (new_yes w2 A n c zs HI.out.lst.len (by omega) HI.out.lst.nil hf (HI.out.lst.below B2.out).srd).mono ?_
    rintro e w3 ⟨v, ps, rfl, hT3, hx3, hB3⟩
    obtain ⟨b3, rfl⟩ := hT3.ptr
    have hz3 := hB3.size
    have P3 := Lib.hid (P2.out.same (hB3.block _ (by omega)))
    have B3 := Lib.hid (B2.out.trans (hB3.mono (by omega)))
    have T3 := Lib.hid hT3.any
    have X3 := Lib.hid hx3
    have HT3 := Lib.hid (HT.out.keep (fun b hb _ => B3.out.block b hb) (by omega))
    clear hT3 hx3 hB3 P2 B2 d0 d1 d2 hf
    have d0 := P3.out.cell 0
    have d1 := P3.out.cell 1
    have d2 := P3.out.cell 2
    simp at d0 d1 d2
    have hzn : zs.length ≤ 500 := by rw [← HI.out.lst.len]; exact hn5
    have HZN := Lib.hid hzn
    clear hzn
    by_cases hE : splE (texts ps).length t.a t.d t.ins = 0
    · have hEz := splE_zero hE
      have K := Lib.hid (splice_good w3 _ ps t _ HT3.out (by rw [E.out.2.2]; omega) T3.out hE w3 (Below.refl _ _))
      rw [E.out.1, E.out.2.1, X3.out] at hEz
      rw [E.out.1, E.out.2.1, E.out.2.2, X3.out] at K
      clear hE
      obtain ⟨e1, e2, e3, e4, e5⟩ := hEz
      obtain ⟨x, rfl⟩ : ∃ x : Nat, ta = x := ⟨ta.toNat, by omega⟩
      obtain ⟨y, rfl⟩ : ∃ y : Nat, td = y := ⟨td.toNat, by omega⟩
      have HFI := Lib.hid e4
      have hxy : x + y ≤ 500 := by have := HZN.out; omega
      have HXY : Hid (x + y ≤ zs.length) := Lib.hid (by omega)
      have HSL : Hid ((spl zs x y t.ins).length = zs.length - y + tm) := Lib.hid (by rw [spl_len HXY.out, E.out.2.2])
      clear e1 e2 e3 e4 e5 b1 b2 b3 b4
      go_wp2_with fail
      go_at_call 17
      refine K.out.mono ?_
      rintro e w5 ⟨b5, pu, rfl, hT5, hx5, _, hM5⟩
      rw [Int.toNat_natCast, Int.toNat_natCast] at hx5
      have hz5 := hM5.to.size
      have P5 := Lib.hid (P3.out.same (hM5.to.block _ P3.out.lt))
      have B5 := Lib.hid (B3.out.trans (hM5.to.mono (by omega)))
      have T5 := Lib.hid (T3.out.below hM5.to)
      have U5 := Lib.hid hT5
      have X5 := hx5
      clear K hT5 hx5 hM5 d0 d1 d2 P3 B3 T3
      have d0 := P5.out.cell 0
      have d1 := P5.out.cell 1
      have d2 := P5.out.cell 2
      simp at d0 d1 d2
      have M5 : More w5.heap.size w5 w5 := Below.refl _ _
      have M5' : More w5.heap.size w5 w5.drew := below_drew (Below.refl _ _)
      have hwl := P5.out.lt
      have SK : Hid (∀ W, More w5.heap.size w5 W → W.cell? ⟨w.heap.size, 0, none⟩ = some (.int .i64 x) ∧ W.cell? ⟨w.heap.size, 1, none⟩ = some (.int .i64 y) ∧ W.cell? ⟨w.heap.size, 2, none⟩ = some (.slice t.A tm t.c) ∧ More w5.heap.size w5 W) := Lib.hid (fun W hW =>
        ⟨(Below.cell hW.to (p := ⟨w.heap.size, 0, none⟩) hwl).trans d0, (Below.cell hW.to (p := ⟨w.heap.size, 1, none⟩) hwl).trans d1, (Below.cell hW.to (p := ⟨w.heap.size, 2, none⟩) hwl).trans d2, hW⟩)
      have S5 := SK.out _ M5
      have S5' := SK.out _ M5'
      have k1 : IntKind.i64.wrap ((x : Int) + 1) = (x : Int) + 1 := by rw [IntKind.wrap_i64]; omega
      have k2 : IntKind.i64.wrap ((x : Int) + y) = (x : Int) + y := by rw [IntKind.wrap_i64]; omega
      have k3 : IntKind.i64.wrap ((x : Int) + tm) = (x : Int) + tm := by rw [IntKind.wrap_i64]; omega
      have K1 := Lib.hid (lines_at w5 _ ps T5.out ((x : Int) + 1) ((x : Int) + y) (by omega) (by omega) (by omega) (by omega) ((zs.take (x + y)).drop x) (by rw [X3.out, show ((x : Int) + y).toNat = x + y by omega, show ((x : Int) + 1 - 1).toNat = x by omega]))
      have hbk : spl (texts pu) x tm ((zs.take (x + y)).drop x) = zs := by rw [X5.out, ← E.out.2.2]; exact spl_back HXY.out
      have K2 := Lib.hid (splice_with w5 _ pu U5.out x tm ((zs.take (x + y)).drop x) zs (by rw [X5.out, HSL.out]; have := HXY.out; omega) (HFZ.out.stretch _ _) hbk (by have := HZN.out; omega) (by rw [List.length_drop, List.length_take]; omega))
      clear hbk
      go_wp2_with fail
      go_region_held3 (fun W => W.cell? ⟨w.heap.size, 0, none⟩ = some (.int .i64 x) ∧ W.cell? ⟨w.heap.size, 1, none⟩ = some (.int .i64 y) ∧ W.cell? ⟨w.heap.size, 2, none⟩ = some (.slice t.A tm t.c) ∧ More w5.heap.size w5 W) (first | assumption | exact ⟨by assumption, by assumption, by assumption, by assumption⟩) (first
        | (go_at_call 26; refine (K1.out _ (held4' (by assumption))).mono ?_; rintro e w6 ⟨A6, n6, c6, rfl, hL6, M6⟩; have S6 := SK.out w6 M6)
        | (go_at_call 17; refine (K2.out A6 n6 c6 _ (by first | exact hL6 | exact hL6.drew) (held4' (by assumption))).mono ?_; rintro e w7 ⟨b7, p7, rfl, hT7, hx7, M7⟩; have S7 := SK.out w7 M7))
      have hz7 := M7.to.size
      have B7 := Lib.hid (B5.out.trans (M7.to.mono (by omega)))
      have U7 := Lib.hid (U5.out.below M7.to)
      have T7 := Lib.hid hT7
      have X7 := hx7
      have HI7 := Lib.hid (HI.out.lst.below B7.out).any
      have HT7 := Lib.hid ((HT.out.keep (fun b hb _ => B7.out.block b hb) (by omega)).lst.any)
      rw [E.out.2.2] at HT7
      have hwl7 : w.heap.size < w7.heap.size := by omega
      have e0 := S7.1
      have e1 := S7.2.1
      have e2 := S7.2.2.1
      have SJ : Hid (∀ W, More w7.heap.size w7 W → W.cell? ⟨w.heap.size, 0, none⟩ = some (.int .i64 x) ∧ W.cell? ⟨w.heap.size, 1, none⟩ = some (.int .i64 y) ∧ W.cell? ⟨w.heap.size, 2, none⟩ = some (.slice t.A tm t.c) ∧ More w7.heap.size w7 W) := Lib.hid (fun W hW =>
        ⟨(Below.cell hW.to (p := ⟨w.heap.size, 0, none⟩) hwl7).trans e0, (Below.cell hW.to (p := ⟨w.heap.size, 1, none⟩) hwl7).trans e1, (Below.cell hW.to (p := ⟨w.heap.size, 2, none⟩) hwl7).trans e2, hW⟩)
      have N7 : More w7.heap.size w7 w7 := Below.refl _ _
      have N7' : More w7.heap.size w7 w7.drew := below_drew (Below.refl _ _)
      have J7 := SJ.out _ N7
      have J7' := SJ.out _ N7'
      have L1 := Lib.hid (all_at w7 _ p7 T7.out zs X7.out.symm)
      have L2 := Lib.hid (same_at w7 A n c zs HI7.out (by have := HZN.out; omega))
      have L3 := Lib.hid (lines_at w7 _ pu U7.out ((x : Int) + 1) ((x : Int) + tm) (by omega) (by omega) (by omega) (by omega) t.ins (by
        rw [X5.out, show ((x : Int) + tm).toNat = x + t.ins.length by rw [E.out.2.2]; omega, show ((x : Int) + 1 - 1).toNat = x by omega]
        exact (spl_mid HXY.out).symm))
      have L4 := Lib.hid (same_at w7 t.A tm t.c t.ins HT7.out (by rw [E.out.2.2]; omega))
      have L5 := Lib.hid (does_at w7)
      clear S5 S5' S6 S7 M5 M5' M6 M7 N7 N7' K1 K2 SK k2 hL6 hT7 hx7 d0 d1 d2 e0 e1 e2
      go_wp2_with fail
      go_region_held3 (fun W => W.cell? ⟨w.heap.size, 0, none⟩ = some (.int .i64 x) ∧ W.cell? ⟨w.heap.size, 1, none⟩ = some (.int .i64 y) ∧ W.cell? ⟨w.heap.size, 2, none⟩ = some (.slice t.A tm t.c) ∧ More w7.heap.size w7 W) (first | assumption | exact ⟨by assumption, by assumption, by assumption, by assumption⟩) (first
        | (go_at_call 20; refine (L1.out _ (held4' (by assumption))).mono ?_; rintro e w8 ⟨A8, n8, c8, rfl, hL8, M8⟩; have S8 := SJ.out w8 M8)
        | (go_at_call 19; have hq := hL8; clear hL8; refine (L2.out A8 n8 c8 _ (by first | exact hq | exact hq.drew) (held4' (by assumption))).mono ?_; rintro e w9 ⟨rfl, M9⟩; have S9 := SJ.out w9 M9; clear hq)
        | (go_at_call 26; refine (L3.out _ (held4' (by assumption))).mono ?_; rintro e w10 ⟨A10, n10, c10, rfl, hL10, M10⟩; have S10 := SJ.out w10 M10)
        | (go_at_call 19; have hq := hL10; clear hL10; refine (L4.out A10 n10 c10 _ (by first | exact hq | exact hq.drew) (held4' (by assumption))).mono ?_; rintro e w11 ⟨rfl, M11⟩; have S11 := SJ.out w11 M11; clear hq)
        | (go_at_call 16; refine (L5.out _ (held4' (by assumption))).mono ?_; rintro e w12 ⟨rfl, M12⟩; have S12 := SJ.out w12 M12))
      have B12 := Lib.hid (B7.out.trans (M12.to.mono (by omega)))
      go_wp2
      go_ret
      exact ⟨rfl, B12.out⟩
    · obtain ⟨e5, he5⟩ : ∃ e5, splE (texts ps).length t.a t.d t.ins = e5 := ⟨_, rfl⟩
      rw [he5] at hE
      have K := Lib.hid (splice_bad w3 _ ps t _ HT3.out (by rw [E.out.2.2]; omega) T3.out e5 he5 hE w3 (Below.refl _ _))
      have hEb : (e5 == 0) = false := by rw [beq_eq_false_iff_ne]; exact hE
      rw [E.out.1, E.out.2.1, E.out.2.2] at K
      clear hE he5
      go_wp2_with fail
      go_at_call 17
      refine K.out.mono ?_
      rintro e w5 ⟨rfl, M5⟩
      have hz5 := M5.to.size
      have B5 := Lib.hid (B3.out.trans (M5.to.mono (by omega)))
      clear K M5 B3
      go_wp2_with fail
      go_at_call 16
      refine (does_is w5).mono ?_
      rintro e w6 ⟨rfl, hB6⟩
      have B6 := Lib.hid (B5.out.trans (hB6.mono (by omega)))
      go_wp2
      go_ret
      exact ⟨rfl, B6.out⟩
  · go_wp2_with fail
    go_at_call 13
    refine (new_no w2 A n c zs HI.out.lst.len (by omega) hf (HI.out.lst.below B2.out).srd).mono ?_
    rintro e w3 ⟨rfl, hB3⟩
    have hz3 := hB3.size
    have B3 := Lib.hid (B2.out.trans (hB3.mono (by omega)))
    clear hf hB3 d0 d1 d2
    go_wp2_with fail
    go_at_call 16
    refine (does_is w3).mono ?_
    rintro e w4 ⟨rfl, hB4⟩
    have B4 := Lib.hid (B3.out.trans (hB4.mono (by omega)))
    go_wp2
    go_ret
    exact ⟨rfl, B4.out⟩
end Go.Proofs.Ytpopnplncgpfkaa.pce
