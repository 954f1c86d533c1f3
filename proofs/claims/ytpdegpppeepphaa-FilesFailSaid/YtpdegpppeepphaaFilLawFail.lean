/- FilesFail, walked. -/
import Derived.Test.YtpdegpppeepphaaFilDuo
import Derived.BigQuiet
namespace Go.Proofs.Ytpdegpppeepphaa.fil
open Go.RowKit Go.Lib Go.Maps Go.WideMaps
set_option linter.unusedVariables false
set_option linter.unusedSimpArgs false
set_option linter.unnecessarySimpa false
set_option linter.unusedSectionVars false

theorem fail_due {s : St} (h : s.off = false) (k : Nat) (ks : List Int) : sFail s (k : Int) ks = (0, dueIn s k (ks.take 32)) := by
  unfold sFail
  rw [if_neg (by rw [h]; decide), if_neg (by omega), Int.toNat_natCast]
  rfl
theorem both_of {n : Nat} {w0 w w' : World} {fb : Nat} {s t : St} (h : Run n w0 fb s w) (h' : Run w.heap.size w (w.heap.size + 1) t w') : Both n w0 fb (w.heap.size + 1) s t w' := by
  obtain ⟨F, h1, h2⟩ := h.is
  obtain ⟨G, k1, k2⟩ := h'.is
  exact ⟨h.below.trans (h'.below.mono h.size), F, G, h1, fun b hb => Nat.le_trans h.size (k1 b hb), fun b hf hg => by have a := h2.lt b hf; have c := k1 b hg; omega, h2.below h'.below, k2⟩

theorem Both.move {n : Nat} {w0 w w' : World} {fb gb : Nat} {s t : St} (h : Both n w0 fb gb s t w) (hn : n ≤ w.heap.size) (hB : Below w.heap.size w w') : Both n w0 fb gb s t w' := by
  obtain ⟨h1, F, G, h2, h3, h4, h5, h6⟩ := h
  exact ⟨h1.trans (hB.mono hn), F, G, h2, h3, h4, h5.below hB, h6.below hB⟩
theorem up_fresh {w : World} (o : Obj) : Below w.heap.size w (w.alloc o) := (Below.refl _ w).alloc (Nat.le_refl _) o

/-- The start behind the crash. -/
def upAgain (s : St) (ks : List Int) : St := ⟨s.cap, lose ks s.files, false, s.starts + 1, none⟩
theorem lost_names (ks : List Int) (l : List Fl) : namesOf (lose ks l) = namesOf l := lose_names ks l
theorem lost_get (ks : List Int) (l : List Fl) (i : Nat) (x : Fl) (h : l[i]? = some x) : (bytesOf (lose ks l))[i]? = some (x.bytes.take (keepN (ks.getD i 0) x)) := by
  unfold bytesOf
  rw [List.getElem?_map, lose_get, h]
  rfl

set_option maxHeartbeats 8000000 in
set_option maxRecDepth 100000 in
theorem law6 (A0 : Option Addr) (n0 c0 : Nat) (d0 : List Dt) (A1 : Option Addr) (n1 c1 : Nat) (d1 : List Dt) (x : Nat) (A : Option Addr) (c m : Nat) (ks : List Int) (w : World) (hx : x < 256)
    (e0 : n0 = d0.length) (m0 : n0 ≤ 9223372036854775807) (h0 : Dos w w.heap.size A0 d0) (e1 : n1 = d1.length) (m1 : n1 ≤ 9223372036854775807) (h1 : Dos w w.heap.size A1 d1) (hm : m = ks.length) (hmc : m ≤ c) (hc : c ≤ maxLen) (hk : LRd w 0 w.heap.size A (iv ks))
    (hdoes : Hid (∀ W, Calls Try.prog 16 #[] W fun e w' => e = .returned (.bool true) ∧ Below W.heap.size W w')) :
    Calls Try.prog 6 #[.agg #[.slice A0 n0 c0, .slice A1 n1 c1], .int .u8 x, .slice A m c] w fun e w' => e = .returned (.bool true) ∧ Below w.heap.size w w' := by
  have hc' : c ≤ 9223372036854775807 := by unfold maxLen at hc; omega
  have HBX : Below w.heap.size w (w.alloc (.cells #[.slice A0 n0 c0, .slice A1 n1 c1] 59)) := (Below.refl _ w).alloc (Nat.le_refl _) _
  have HAT := At.new w 59 #[.slice A0 n0 c0, .slice A1 n1 c1]
  have hzx : (w.alloc (.cells #[.slice A0 n0 c0, .slice A1 n1 c1] 59)).heap.size = w.heap.size + 1 := by simp
  have CM0 := Lib.hid (much_is A0 c0 n0 w.heap.size d0 _ e0 m0 (by omega) (h0.belowN HBX))
  have H1 := Lib.hid h1
  have H0 := Lib.hid h0
  have HK := Lib.hid hk
  have E0 := Lib.hid e0
  have E1 := Lib.hid e1
  have HM := Lib.hid hm
  clear h0 h1 hk e0 e1 hm
  obtain ⟨k, hk6, hk7⟩ : ∃ k, x % 20 = k ∧ k < 20 := ⟨_, rfl, by omega⟩
  have hz : (x : Int) % 20 = (k : Int) := by omega
  clear hk6
  go_enter Try.func6, Try.ntmps6
  go_wp2_with fail
  change Calls _ _ _ (w.alloc (.cells #[.slice A0 n0 c0, .slice A1 n1 c1] 59)) _
  generalize w.alloc (.cells #[.slice A0 n0 c0, .slice A1 n1 c1] 59) = wa at *
  refine CM0.out.mono ?_
  rintro e wb ⟨he, hBb⟩
  clear CM0
  have hzb := hBb.size
  have HAT1 := HAT.same (hBb.block _ HAT.lt)
  have HB1 : Below w.heap.size w wb := HBX.trans (hBb.mono (by omega))
  clear HAT hBb HBX
  rcases he with rfl | ⟨rfl, h120, h60⟩
  · go_wp2
    go_ret
    exact ⟨rfl, HB1⟩
  rw [← E0.out] at h120
  clear h60
  have CM1 := Lib.hid (much_is A1 c1 n1 w.heap.size d1 wb E1.out m1 (by omega) (H1.out.belowN HB1))
  have q1 : wb.cell? ⟨w.heap.size, 1, none⟩ = some (.slice A1 n1 c1) := HAT1.cell 1
  go_wp2_with fail
  go_at_call 9
  refine CM1.out.mono ?_
  rintro e w1 ⟨he, hB⟩
  clear CM1 q1
  have hzc := hB.size
  have HA := HAT1.same (hB.block _ HAT1.lt)
  have HB := HB1.trans (hB.mono (by omega))
  clear HAT1 hB HB1
  rcases he with rfl | ⟨rfl, h120b, h60⟩
  · go_wp2
    go_ret
    exact ⟨rfl, HB⟩
  rw [← E1.out] at h120b
  clear h60
  by_cases z3 : 60 < m
  · go_wp2
    go_ret
    exact ⟨rfl, HB⟩
  have hNs := HA.lt
  generalize hN : w.heap.size = N at *
  have hN := Lib.hid hN
  have hs1 : (after (1 + 5000) d0).starts ≤ 1000 := by have := (after_facts (1 + 5000) d0).2.2; rw [← E0.out] at this; omega
  have hs2 : (after (1 + 5000) d0).off = false := after_on _ _
  have hs3 : (after (1 + 5000) d0).due = none := (after_facts (1 + 5000) d0).1
  have D1 : Dos w1 N A0 d0 := H0.out.belowN HB
  have CA1 : Hid (∀ q, Calls Try.prog 25 #[.int .u16 5000, .slice A0 n0 c0] (w1.drewN q) fun e w' => e = .returned (.pointer (some ⟨w1.heap.size + 1, 0, none⟩)) ∧ Run w1.heap.size w1 (w1.heap.size + 1) (after (1 + 5000) d0) w' ∧ w'.cell? ⟨N, 0, none⟩ = some (.slice A0 n0 c0)) := Lib.hid fun q =>
    (after_is A0 c0 n0 N 5000 d0 (w1.drewN q) E0.out (by omega) (by omega) (by show N ≤ w1.heap.size; omega) (D1.belowN (below_drewN (Below.refl _ _) q))).mono fun e w' ⟨he, hR⟩ =>
      ⟨he, ⟨⟨hR.below.os, hR.below.tape, hR.below.output, hR.below.size, hR.below.block⟩, Nat.le_refl _, hR.is⟩, (Below.cell (p := ⟨N, 0, none⟩) hR.below hNs).trans (HA.cell 0)⟩
  have CA2 : Hid (∀ W, Run w1.heap.size w1 (w1.heap.size + 1) (after (1 + 5000) d0) W → Calls Try.prog 25 #[.int .u16 5000, .slice A0 n0 c0] W fun e w' => e = .returned (.pointer (some ⟨W.heap.size + 1, 0, none⟩)) ∧ Both w1.heap.size w1 (w1.heap.size + 1) (W.heap.size + 1) (after (1 + 5000) d0) (after (1 + 5000) d0) w') := Lib.hid fun W hW =>
    (after_is A0 c0 n0 N 5000 d0 W E0.out (by omega) (by omega) (by have := hW.size; omega) (D1.later hW.below (by omega))).mono fun e w' ⟨he, hR⟩ => ⟨he, both_of hW hR⟩
  have q0 : w1.cell? ⟨N, 0, none⟩ = some (.slice A0 n0 c0) := HA.cell 0
  clear D1
  go_wp2_with fail
  go_cut [7, 8] (fun s7 s8 wx => ∃ gb, s7 = .pointer (some ⟨w1.heap.size + 1, 0, none⟩) ∧ s8 = .pointer (some ⟨gb, 0, none⟩) ∧ Both w1.heap.size w1 (w1.heap.size + 1) gb (after (1 + 5000) d0) (after (1 + 5000) d0) wx)
  case first =>
    first
      | go_region_with (first
          | (go_at_call 25; refine (CA2.out _ hR).mono ?_; rintro e w3 ⟨rfl, hBo⟩)
          | (go_at_call 25; refine (CA1.out _).mono ?_; rintro e w2 ⟨rfl, hR, z1⟩))
      | fail
    all_goals (go_wp2_with fail; go_meet; exact ⟨_, rfl, rfl, hBo⟩)
  case rest =>
    obtain ⟨gb, rfl, rfl, hBo⟩ := hcut
    clear CA1 CA2 q0
    generalize after (1 + 5000) d0 = s0 at *
    have D1 : Dos w1 N A1 d1 := H1.out.belowN HB
    have K1 : LRd w1 0 N A (iv ks) := HK.out.belowN HB
    generalize hn : w1.heap.size = n at *
    have HNn := Lib.hid hn
    clear hn
    obtain ⟨hBn, F, G, f1, f2, f3, f4, f5⟩ := hBo
    have hnw : n ≤ wc.heap.size := by have h1 := hBn.size; have h2 := HNn.out; omega
    have CF := fail_duo A c 0 N (k : Int) ks (by rw [← HM.out]; exact hmc) hc' (by omega) (K1.belowN (hBn.mono (by omega))) (Duo.start f4 f5 f3)
    rw [fail_due hs2, ← HM.out] at CF
    have CF := Lib.hid CF
    have HAT := Lib.hid HA
    have HBB := Lib.hid HB
    have HD := Lib.hid D1
    clear f4 f5 f3 D1 K1 HA HB H0 H1 HK E0
    go_wp2_with fail
    go_at_call 29
    refine CF.out.mono ?_
    rintro e w2 ⟨rfl, D2⟩
    clear CF
    have hBo := D2.both hBn hnw f1 f2
    clear D2 hBn f1 f2 hnw
    generalize ks.take 32 = kt at *
    go_wp2
    clear hz
    go_loopg [9, 10] n1 (fun g s9 s10 wr => ∃ (i k : Nat) (t : St), s10 = .int .i64 i ∧ s9 = .int .i64 k ∧ k < 20 ∧ i ≤ n1 ∧ n1 - i ≤ g ∧ Both n w1 (n + 1) gb (dueIn t k kt) t wr ∧ t.off = false ∧ t.due = none ∧ t.starts ≤ 1000)
    case atStart => exact ⟨0, k, s0, rfl, rfl, hk7, Nat.zero_le _, by omega, hBo, hs2, hs3, hs1⟩
    case round =>
      obtain ⟨i, k, t, rfl, rfl, hk20, hi, hg, hBo, ht1, ht2, ht3⟩ := hrel
      clear hs1 hs2 hs3
      obtain ⟨hBn, F, G, f1, f2, f3, f4, f5⟩ := hBo
      have hnw : n ≤ wr.heap.size := by have h1 := hBn.size; have h2 := HNn.out; omega
      have hHA := HAT.out.same (hBn.block _ (by omega))
      have q1 : wr.cell? ⟨N, 1, none⟩ = some (.slice A1 n1 c1) := hHA.cell 1
      have HBn : Below N w wr := HBB.out.trans (hBn.mono (by omega))
      by_cases hlt : i < n1
      · obtain ⟨d, hd⟩ : ∃ d, d1[i]? = some d := ⟨d1[i]'(by rw [← E1.out]; exact hlt), List.getElem?_eq_getElem _⟩
        have hdm := List.mem_of_getElem? hd
        have hok := HD.out.ok d hdm
        have hDw := HD.out.belowN (hBn.mono (show N ≤ n by omega))
        obtain ⟨b, off, rfl, hb, g0, g1, g2, g3, g4, g5⟩ := hDw.at hd
        have hkd := HD.out.lists d hdm
        have hw := hok.what
        obtain ⟨q, hq, hq12⟩ : ∃ q, d.what % 12 = q ∧ q < 12 := ⟨_, rfl, by omega⟩
        have hz : (d.what : Int) % 12 = (q : Int) := by omega
        by_cases hq7 : 7 < q
        · have hgt : decide ((7 : Int) < (q : Int)) = true := decide_eq_true (by omega)
          have HBO : Hid (Both n w1 (n + 1) gb (dueIn t k kt) t wr) := Lib.hid ⟨hBn, F, G, f1, f2, f3, f4, f5⟩
          clear hdm hok hDw hkd hw hd f4 f5 f3 HBn hHA
          generalize d.what = xw at *
          go_wp2
          go_roundg (n1 - (i + 1))
          case measure => omega
          case rel => exact ⟨i + 1, k, t, by go_num, rfl, hk20, by omega, by omega, HBO.out.move hnw (up_fresh _), ht1, ht2, ht3⟩
        · have hgt : decide ((7 : Int) < (q : Int)) = false := decide_eq_false (by omega)
          have hst : d.what % 12 ≤ 7 := by omega
          have HQ := Lib.hid hq
          have hFl := f4.lt
          have hGl := f5.lt
          have hX := At.new wr 33 #[.int .u8 d.what, .string d.a, .string d.b, .string d.t, .int .i64 d.n, .slice d.kA d.k.length d.kc]
          have hup := up_fresh (w := wr) (.cells #[.int .u8 d.what, .string d.a, .string d.b, .string d.t, .int .i64 d.n, .slice d.kA d.k.length d.kc] 33)
          have hxs : (wr.alloc (.cells #[.int .u8 d.what, .string d.a, .string d.b, .string d.t, .int .i64 d.n, .slice d.kA d.k.length d.kc] 33)).heap.size = wr.heap.size + 1 := by simp
          have p0 : (wr.alloc (.cells #[.int .u8 d.what, .string d.a, .string d.b, .string d.t, .int .i64 d.n, .slice d.kA d.k.length d.kc] 33)).cell? ⟨wr.heap.size, 0, none⟩ = some (.int .u8 d.what) := hX.cell 0
          go_wp2_with fail
          change Calls _ _ _ (wr.alloc (.cells #[.int .u8 d.what, .string d.a, .string d.b, .string d.t, .int .i64 d.n, .slice d.kA d.k.length d.kc] 33)) _
          generalize wr.alloc (.cells #[.int .u8 d.what, .string d.a, .string d.b, .string d.t, .int .i64 d.n, .slice d.kA d.k.length d.kc] 33) = wx at *
          have f4x := f4.below hup
          have f5x := f5.below hup
          have hBx : Below n w1 wx := hBn.trans (hup.mono hnw)
          generalize hX' : wr.heap.size = X at *
          clear hX' p0 hup f4 f5 hBn q1 hHA HBn g0 g1 g2 g3 g4 g5 hd hdm
          have C1 := Lib.hid (names_has ⟨G, f5x⟩)
          refine C1.out.mono ?_
          rintro e w3 ⟨A3, c3, rfl, a1, a2, a3, a4⟩
          clear C1
          have hs3 := a4.size
          have C2 := Lib.hid (held_has ht1 ⟨G, f5x.below a4⟩)
          go_wp2_with fail
          go_at_call 26
          refine C2.out.mono ?_
          rintro e w4 ⟨A4, c4, rfl, b1, b2, b3, b4⟩
          clear C2
          have hs4 := b4.size
          have f4y := (f4x.below a4).below b4
          have f5y := (f5x.below a4).below b4
          have hXb := hX.lt
          have hX4 := (hX.same (a4.block _ hXb)).same (b4.block _ (by omega))
          have hB4 : Below n w1 w4 := (hBx.trans (a4.mono (by omega))).trans (b4.mono (by omega))
          have L3 := Lib.hid (a3.below b4)
          have L4 := Lib.hid b3
          have D4 := Duo.start f4y f5y f3
          have hkd4 : LRd w4 0 N d.kA (iv d.k) := hkd.belowN (hB4.mono (show N ≤ n by omega))
          have hnw4 : n ≤ w4.heap.size := by omega
          have hap1 : ∀ b, F b ∨ w4.heap.size ≤ b → b < 0 ∨ N ≤ b := fun b hb => .inr (by
            rcases hb with hb | hb
            · have := f1 b hb; omega
            · omega)
          have hap2 : ∀ b, G b ∨ w4.heap.size ≤ b → b < 0 ∨ N ≤ b := fun b hb => .inr (by
            rcases hb with hb | hb
            · have := f2 b hb; omega
            · omega)
          have hap3 : ∀ b, G b ∨ F b → b < 0 ∨ N ≤ b := fun b hb => hb.elim (fun h => hap2 b (.inl h)) (fun h => hap1 b (.inl h))
          have k0 : w4.cell? ⟨X, 0, none⟩ = some (.int .u8 d.what) := hX4.cell 0
          have k1 : w4.cell? ⟨X, 1, none⟩ = some (.string d.a) := hX4.cell 1
          have k2 : w4.cell? ⟨X, 2, none⟩ = some (.string d.b) := hX4.cell 2
          have k3 : w4.cell? ⟨X, 3, none⟩ = some (.string d.t) := hX4.cell 3
          have k4 : w4.cell? ⟨X, 4, none⟩ = some (.int .i64 d.n) := hX4.cell 4
          have k5 : w4.cell? ⟨X, 5, none⟩ = some (.slice d.kA d.k.length d.kc) := hX4.cell 5
          by_cases he : errOf t d = 0
          · rcases k with _ | k'
            · have hk1 : decide ((0 : Int) < ((0 : Nat) : Int)) = false := rfl
              have CG := with_duo d 0 N hok hkd4 hap2 (by omega) D4.swap
              rw [plain_ok hst ht1 ht2 he] at CG
              have CG := Lib.hid CG
              unfold Dt.val at CG
              go_wp2_with fail
              go_at_call 12
              refine CG.out.mono ?_
              rintro e w5 ⟨rfl, D5⟩
              clear CG k0 k1 k2 k3 k4 k5
              have hX5 := D5.1.at hX4 (fun h => h.elim (fun h => by have := hGl X h; omega) (fun h => by have := hFl X h; omega))
              have m0 : w5.cell? ⟨X, 0, none⟩ = some (.int .u8 d.what) := hX5.cell 0
              have m1 : w5.cell? ⟨X, 1, none⟩ = some (.string d.a) := hX5.cell 1
              have m2 : w5.cell? ⟨X, 2, none⟩ = some (.string d.b) := hX5.cell 2
              have m3 : w5.cell? ⟨X, 3, none⟩ = some (.string d.t) := hX5.cell 3
              have m4 : w5.cell? ⟨X, 4, none⟩ = some (.int .i64 d.n) := hX5.cell 4
              have m5 : w5.cell? ⟨X, 5, none⟩ = some (.slice d.kA d.k.length d.kc) := hX5.cell 5
              have CF := with_duo d 0 N hok (hkd4.duo D5 hap3) hap1 (by show t.starts ≤ 1000000; omega) D5.swap
              rw [due_dies kt hst ht1 he] at CF
              have CF := Lib.hid CF
              unfold Dt.val at CF
              go_wp2_with fail
              go_at_call 12
              refine CF.out.mono ?_
              rintro e wT ⟨rfl, D6⟩
              clear CF m0 m1 m2 m3 m4 m5
              have hX6 := D6.1.at hX4 (fun h => h.elim (fun h => by have := hFl X h; omega) (fun h => by have := hGl X h; omega))
              have m0 : wT.cell? ⟨X, 0, none⟩ = some (.int .u8 d.what) := hX6.cell 0
              have HB6 : Hid (Below N w wT) := Lib.hid ((HBB.out.trans (hB4.mono (show N ≤ n by omega))).trans ((D6.below hnw4 (fun b hb => hb.elim (f1 b) (f2 b))).mono (show N ≤ n by omega)))
              have hs6 := D6.1.size
              have hT1 : Hid (t.starts ≤ 1000) := Lib.hid ht3
              by_cases h3 : q < 3
              case' pos =>
                have hq3 : decide ((q : Int) < (3 : Int)) = true := decide_eq_true (by omega)
                have hlf : leftOf t d = doOf t d := if_pos (by have := HQ.out; omega)
                rw [hlf] at D6
                clear hlf L3 L4
                generalize doOf t d = base at *
                have HTO := Lib.hid D6.two.ok
                have C1 : Hid (Calls Try.prog 18 #[.pointer (some ⟨gb, 0, none⟩)] wT (Tells wT base.length (strV (namesOf base)))) := Lib.hid (names_has (s := put t base) D6.two)
                obtain ⟨w6, hw6⟩ : ∃ w6, w6 = wT := ⟨_, rfl⟩
                subst hw6
                go_wp2_with fail
                go_at_call 18
                refine C1.out.mono ?_
                rintro e w7 ⟨A3, c3, rfl, g1, g2, g3, g4⟩
                clear C1
                have hs7 := g4.size
                have C2 : Hid (Calls Try.prog 26 #[.pointer (some ⟨gb, 0, none⟩)] w7 (Tells w7 base.length (strV (bytesOf base)))) := Lib.hid (held_has (s := put t base) ht1 (D6.move g4).two)
                go_wp2_with fail
                go_at_call 26
                refine C2.out.mono ?_
                rintro e wT ⟨A4, c4, rfl, r1, r2, r3, r4⟩
                clear C2
                have hsT := r4.size
                obtain ⟨_, F6, G6, u1, u2, u3, u4, u5⟩ := D6
                obtain ⟨lo1, hi1, lo2, hi2, LN, LH, hNF, hHF, hlo1, hlo2⟩ : ∃ lo1 hi1 lo2 hi2 : Nat, Hid (LRd wT lo1 hi1 A3 (strV (namesOf base))) ∧ Hid (LRd wT lo2 hi2 A4 (strV (bytesOf base))) ∧ Hid (∀ b, F6 b → b < lo1 ∨ hi1 ≤ b) ∧ Hid (∀ b, F6 b → b < lo2 ∨ hi2 ≤ b) ∧ hi1 ≤ wT.heap.size ∧ hi2 ≤ wT.heap.size :=
                  ⟨w6.heap.size, w7.heap.size, w7.heap.size, wT.heap.size, Lib.hid (g3.below r4), Lib.hid r3, Lib.hid (fun b hb => .inl (u4.lt b hb)), Lib.hid (fun b hb => .inl (by have := u4.lt b hb; omega)), hsT, Nat.le_refl _⟩
                have hF6 : Hid (∀ b, F6 b → n ≤ b) := Lib.hid (fun b hb => (u1 b hb).elim (f1 b) (fun h => by omega))
                have HIT := Lib.hid ((u4.below g4).below r4)
                have HBT : Hid (Below N w wT) := Lib.hid ((HB6.out.trans (g4.mono (by omega))).trans (r4.mono (by omega)))
                have hnT : n ≤ wT.heap.size := by omega
                clear g3 g4 r3 r4 u1 u2 u3 u4 u5
              case' neg =>
                have hq3 : decide ((q : Int) < (3 : Int)) = false := decide_eq_false (by omega)
                have hlf : leftOf t d = t.files := if_neg (by have := HQ.out; omega)
                rw [hlf] at D6
                clear hlf
                have HTO : Hid (Ok (put t t.files)) := Lib.hid f5y.ok
                obtain ⟨hTu, F6, G6, u1, u2, u3, u4, u5⟩ := D6
                obtain ⟨lo1, hi1, lo2, hi2, LN, LH, hNF, hHF, hlo1, hlo2⟩ : ∃ lo1 hi1 lo2 hi2 : Nat, Hid (LRd wT lo1 hi1 A3 (strV (namesOf t.files))) ∧ Hid (LRd wT lo2 hi2 A4 (strV (bytesOf t.files))) ∧ Hid (∀ b, F6 b → b < lo1 ∨ hi1 ≤ b) ∧ Hid (∀ b, F6 b → b < lo2 ∨ hi2 ≤ b) ∧ hi1 ≤ wT.heap.size ∧ hi2 ≤ wT.heap.size :=
                  ⟨wx.heap.size, w3.heap.size, w3.heap.size, w4.heap.size,
                    Lib.hid (L3.out.turned hTu (fun b hb => hb.elim (fun h => .inl (by have := hFl b h; omega)) (fun h => .inl (by have := hGl b h; omega)))),
                    Lib.hid (L4.out.turned hTu (fun b hb => hb.elim (fun h => .inl (by have := hFl b h; omega)) (fun h => .inl (by have := hGl b h; omega)))),
                    Lib.hid (fun b hb => (u1 b hb).elim (fun h => .inl (by have := hFl b h; omega)) (fun h => .inr (by omega))),
                    Lib.hid (fun b hb => (u1 b hb).elim (fun h => .inl (by have := hFl b h; omega)) (fun h => .inr (by omega))), by omega, by omega⟩
                have hF6 : Hid (∀ b, F6 b → n ≤ b) := Lib.hid (fun b hb => (u1 b hb).elim (f1 b) (fun h => by omega))
                have HIT := Lib.hid u4
                have HBT := HB6
                have hnT : n ≤ wT.heap.size := by omega
                clear hTu u1 u2 u3 u4 u5 L3 L4
                generalize t.files = base at *
              all_goals
                have hfew : base.length ≤ 32 := HTO.out.few
                have hroom : total base ≤ 1048576 := Nat.le_trans HTO.out.room HTO.out.cap2
                have hl2 : Hid ((lose kt base).length = base.length) := Lib.hid (lose_length kt base)
                have CU : Hid (Calls Try.prog 21 #[.pointer (some ⟨n + 1, 0, none⟩)] wT fun e w' => e = .returned (.bool false) ∧ wT = w') := Lib.hid (up_has (s := crash kt (put t base)) ⟨F6, HIT.out⟩)
                clear f4y f5y f4x f5x D4 D5 hX4 hX5 hX6 hkd4 hap1 hap2 hap3 HTO
                go_wp2_with fail
                go_at_call 21
                refine CU.out.mono ?_
                rintro e w' ⟨rfl, rfl⟩
                clear CU
                have CT : Hid (Calls Try.prog 28 #[.pointer (some ⟨n + 1, 0, none⟩)] wT fun e w' => e = .returned (.int .i64 0) ∧ Went F6 (n + 1) (upAgain (put t base) kt) wT w') := Lib.hid (start_gone (s := crash kt (put t base)) (by show t.starts ≤ 1000000; have := hT1.out; omega) (Wentz.refl HIT.out))
                go_wp2_with fail
                go_at_call 28
                refine CT.out.mono ?_
                rintro e ws ⟨rfl, WS⟩
                clear CT
                have hss := WS.1.size
                have LNs := Lib.hid (LN.out.went WS hNF.out)
                have LHs := Lib.hid (LH.out.went WS hHF.out)
                have HBs : Hid (Below N w ws) := Lib.hid (HBT.out.trans ((WS.below hnT hF6.out).mono (show N ≤ n by omega)))
                have HSs := Lib.hid WS.has
                clear WS LN LH HIT
                have C1 : Hid (Calls Try.prog 18 #[.pointer (some ⟨n + 1, 0, none⟩)] ws (Tells ws base.length (strV (namesOf base)))) := Lib.hid ((names_has HSs.out).mono fun e w' h => h.len hl2.out (by show strV (namesOf (lose kt base)) = _; rw [lost_names]))
                go_wp2_with fail
                go_at_call 18
                refine C1.out.mono ?_
                rintro e wn ⟨An, cn, rfl, v1, v2, v3, v4⟩
                clear C1
                have hsn := v4.size
                have C2 := Lib.hid (same_yes An A3 cn c3 base.length ws.heap.size wn.heap.size lo1 hi1 (namesOf base) wn (namesOf_length base).symm (by omega) (Nat.le_refl _) (by omega) v3 (LNs.out.below v4))
                go_wp2_with fail
                go_at_call 24
                refine C2.out.mono ?_
                rintro e wm ⟨rfl, v5⟩
                clear C2
                have hsm := v5.size
                have HSm := Lib.hid ((HSs.out.move v4).move v5)
                have LHm := Lib.hid ((LHs.out.below v4).below v5)
                have HBm : Hid (Below N w wm) := Lib.hid ((HBs.out.trans (v4.mono (by omega))).trans (v5.mono (by omega)))
                clear v3 v4 v5 LNs LHs HBs HSs
                have C3 : Hid (Calls Try.prog 26 #[.pointer (some ⟨n + 1, 0, none⟩)] wm (Tells wm base.length (strV (bytesOf (lose kt base))))) := Lib.hid ((held_has (s := upAgain (put t base) kt) rfl HSm.out).mono fun e w' h => h.len hl2.out rfl)
                go_wp2_with fail
                go_at_call 26
                refine C3.out.mono ?_
                rintro e wz ⟨Az, cz, rfl, y1, y2, y3, y4⟩
                clear C3
                have hsz := y4.size
                have LF := Lib.hid y3
                have LH := Lib.hid (LHm.out.below y4)
                have HBz : Hid (Below N w wz) := Lib.hid (HBm.out.trans (y4.mono (by omega)))
                clear y3 y4 LHm HBm HSm
                generalize hl : base.length = l at *
                have HL := Lib.hid hl
                clear hl
                go_wp2
                go_loopg [17] l (fun g s17 wr => ∃ j : Nat, s17 = .int .i64 j ∧ j ≤ l ∧ l - j ≤ g ∧ Below wz.heap.size wz wr)
                case atStart => exact ⟨0, rfl, Nat.zero_le _, by omega, Below.refl _ _⟩
                case round =>
                  obtain ⟨j, rfl, hj, hgj, hbj⟩ := hrel
                  have hsj := hbj.size
                  by_cases hlj : j < l
                  · obtain ⟨y, hy⟩ : ∃ y, base[j]? = some y := ⟨base[j]'(by rw [HL.out]; exact hlj), List.getElem?_eq_getElem _⟩
                    have hyl := total_mem (List.mem_of_getElem? hy)
                    obtain ⟨bf, of, rfl, _, _, df⟩ := (LF.out.below hbj) (by rw [strV_length, bytesOf_length, hl2.out]; omega)
                    obtain ⟨bh, oh, rfl, _, _, dh⟩ := (LH.out.below hbj) (by rw [strV_length, bytesOf_length, HL.out]; omega)
                    have qf : wr.cell? ⟨bf, of + j, none⟩ = some (.string (B (y.bytes.take (keepN (kt.getD j 0) y)))) := df j _ (by unfold strV; rw [List.getElem?_map, lost_get kt base j y hy]; rfl)
                    have qh : wr.cell? ⟨bh, oh + j, none⟩ = some (.string (B y.bytes)) := dh j _ (by simp [strV, bytesOf, hy])
                    have hle : (B (y.bytes.take (keepN (kt.getD j 0) y))).size ≤ (B y.bytes).size := by rw [B_size, B_size, List.length_take]; exact Nat.min_le_right _ _
                    have hs9 : (B y.bytes).size ≤ 1048576 := by rw [B_size]; omega
                    have SL : ∀ W, (Instr.slice 9 (.string (B y.bytes)) none (some (.int .i64 ((B (y.bytes.take (keepN (kt.getD j 0) y))).size : Int))) none).run Try.prog W = .ok (.string (B (y.bytes.take (keepN (kt.getD j 0) y)))) W := fun W => by
                      rw [front_slice (B y.bytes) _ hle W, list_B, B_size, List.length_take, ← List.take_take, List.take_length]
                    clear df dh hyl hy
                    generalize B (y.bytes.take (keepN (kt.getD j 0) y)) = st at *
                    generalize B y.bytes = sb at *
                    have hgt : decide ((sb.size : Int) < (st.size : Int)) = false := decide_eq_false (by omega)
                    have hne : (st.toList == st.toList) = true := by simp
                    go_wp2
                    go_quiet (fail)
                    go_wp2
                    go_roundg (l - (j + 1))
                    case measure => omega
                    case rel => exact ⟨j + 1, by go_num, by omega, by omega, below_drewN hbj _⟩
                  · obtain rfl : j = l := by omega
                    have HBj : Below N w wr := HBz.out.trans (hbj.mono (by omega))
                    go_wp2_with fail
                    go_at_call 16
                    refine (hdoes.out _).mono ?_
                    rintro e w9 ⟨rfl, o4⟩
                    go_wp2
                    go_ret
                    exact ⟨rfl, by rw [hN.out]; exact HBj.trans (o4.mono (by omega))⟩
            · have hk1 : decide ((0 : Int) < ((k' + 1 : Nat) : Int)) = true := decide_eq_true (by omega)
              have CG := with_duo d 0 N hok hkd4 hap2 (by omega) D4.swap
              rw [plain_ok hst ht1 ht2 he] at CG
              have CG := Lib.hid CG
              unfold Dt.val at CG
              go_wp2_with fail
              go_at_call 12
              refine CG.out.mono ?_
              rintro e w5 ⟨rfl, D5⟩
              clear CG k0 k1 k2 k3 k4 k5
              have hX5 := D5.1.at hX4 (fun h => h.elim (fun h => by have := hGl X h; omega) (fun h => by have := hFl X h; omega))
              have m0 : w5.cell? ⟨X, 0, none⟩ = some (.int .u8 d.what) := hX5.cell 0
              have m1 : w5.cell? ⟨X, 1, none⟩ = some (.string d.a) := hX5.cell 1
              have m2 : w5.cell? ⟨X, 2, none⟩ = some (.string d.b) := hX5.cell 2
              have m3 : w5.cell? ⟨X, 3, none⟩ = some (.string d.t) := hX5.cell 3
              have m4 : w5.cell? ⟨X, 4, none⟩ = some (.int .i64 d.n) := hX5.cell 4
              have m5 : w5.cell? ⟨X, 5, none⟩ = some (.slice d.kA d.k.length d.kc) := hX5.cell 5
              have CF := with_duo d 0 N hok (hkd4.duo D5 hap3) hap1 (by show t.starts ≤ 1000000; omega) D5.swap
              rw [due_ok k' kt hst ht1 he] at CF
              have CF := Lib.hid CF
              unfold Dt.val at CF
              go_wp2_with fail
              go_at_call 12
              refine CF.out.mono ?_
              rintro e w6 ⟨rfl, D6⟩
              clear CF m0 m1 m2 m3 m4 m5
              go_wp2
              go_roundg (n1 - (i + 1))
              case measure => omega
              case rel => exact ⟨i + 1, k', put t (doOf t d), by go_num, by go_num, by omega, by omega, by omega, D6.both hB4 hnw4 f1 f2, ht1, ht2, ht3⟩
          · have hz1 : ¬ errOf t d = 0 := he
            have CG := with_duo d 0 N hok hkd4 hap2 (by omega) D4.swap
            rw [plain_err hst ht1 he] at CG
            have CG := Lib.hid CG
            unfold Dt.val at CG
            go_wp2_with fail
            go_at_call 12
            refine CG.out.mono ?_
            rintro e w5 ⟨rfl, D5⟩
            clear CG k0 k1 k2 k3 k4 k5
            have hX5 := D5.1.at hX4 (fun h => h.elim (fun h => by have := hGl X h; omega) (fun h => by have := hFl X h; omega))
            have m0 : w5.cell? ⟨X, 0, none⟩ = some (.int .u8 d.what) := hX5.cell 0
            have m1 : w5.cell? ⟨X, 1, none⟩ = some (.string d.a) := hX5.cell 1
            have m2 : w5.cell? ⟨X, 2, none⟩ = some (.string d.b) := hX5.cell 2
            have m3 : w5.cell? ⟨X, 3, none⟩ = some (.string d.t) := hX5.cell 3
            have m4 : w5.cell? ⟨X, 4, none⟩ = some (.int .i64 d.n) := hX5.cell 4
            have m5 : w5.cell? ⟨X, 5, none⟩ = some (.slice d.kA d.k.length d.kc) := hX5.cell 5
            have CF := with_duo d 0 N hok (hkd4.duo D5 hap3) hap1 (by show t.starts ≤ 1000000; omega) D5.swap
            rw [due_err k kt hst ht1 he] at CF
            have CF := Lib.hid CF
            unfold Dt.val at CF
            go_wp2_with fail
            go_at_call 12
            refine CF.out.mono ?_
            rintro e w6 ⟨rfl, D6⟩
            clear CF m0 m1 m2 m3 m4 m5
            have HBO := Lib.hid (D6.both hB4 hnw4 f1 f2)
            generalize errOf t d = z at *
            have hz2 : (z != 0) = true := by simpa using hz1
            have hz3 : (z == 0) = false := by simpa using hz1
            have hz4 : (z != z) = false := by simp
            go_wp2
            go_roundg (n1 - (i + 1))
            case measure => omega
            case rel => exact ⟨i + 1, k, t, by go_num, rfl, hk20, by omega, by omega, HBO.out, ht1, ht2, ht3⟩
      · have hfew := f5.ok.few
        have CU := up_has ⟨F, f4⟩
        rw [show (dueIn t k kt).off = false from ht1] at CU
        have CU : Hid (Calls Try.prog 21 #[.pointer (some ⟨n + 1, 0, none⟩)] wr fun e w' => e = .returned (.bool true) ∧ wr = w') := Lib.hid CU
        have C1 : Hid (Calls Try.prog 26 #[.pointer (some ⟨n + 1, 0, none⟩)] wr (Tells wr t.files.length (strV (bytesOf t.files)))) := Lib.hid (held_has (s := dueIn t k kt) (show (dueIn t k kt).off = false from ht1) ⟨F, f4⟩)
        have hBL : Hid (t.files.length = (bytesOf t.files).length) := Lib.hid (bytesOf_length _).symm
        have hNL : Hid (t.files.length = (namesOf t.files).length) := Lib.hid (namesOf_length _).symm
        go_wp2_with fail
        go_at_call 21
        refine CU.out.mono ?_
        rintro e w' ⟨rfl, rfl⟩
        clear CU
        go_wp2_with fail
        go_at_call 26
        refine C1.out.mono ?_
        rintro e w3 ⟨A3, c3, rfl, a1, a2, a3, a4⟩
        clear C1
        have hs3 := a4.size
        have C2 := Lib.hid (held_has ht1 ⟨G, f5.below a4⟩)
        go_wp2_with fail
        go_at_call 26
        refine C2.out.mono ?_
        rintro e w4 ⟨A4, c4, rfl, b1, b2, b3, b4⟩
        clear C2
        have hs4 := b4.size
        have C3 := Lib.hid (same_yes A3 A4 c3 c4 t.files.length wr.heap.size w3.heap.size w3.heap.size w4.heap.size (bytesOf t.files) w4 hBL.out (by omega) (by omega) (Nat.le_refl _) (a3.below b4) b3)
        have f4' := (f4.below a4).below b4
        have f5' := (f5.below a4).below b4
        have HB4 : Below N w w4 := (HBn.trans (a4.mono (by omega))).trans (b4.mono (by omega))
        clear a3 b3 a4 b4 f4 f5
        go_wp2_with fail
        go_at_call 24
        refine C3.out.mono ?_
        rintro e w5 ⟨rfl, d4⟩
        clear C3
        have hs5 := d4.size
        have f4'' := f4'.below d4
        have f5'' := f5'.below d4
        have HB5 := HB4.trans (d4.mono (by omega))
        have C4 : Hid (Calls Try.prog 18 #[.pointer (some ⟨n + 1, 0, none⟩)] w5 (Tells w5 t.files.length (strV (namesOf t.files)))) := Lib.hid (names_has (s := dueIn t k kt) ⟨F, f4''⟩)
        clear d4 f4' f5' HB4
        go_wp2_with fail
        go_at_call 18
        refine C4.out.mono ?_
        rintro e w6 ⟨A6, c6, rfl, e1, e2, e3, e4⟩
        clear C4
        have hs6 := e4.size
        have C5 := Lib.hid (names_has ⟨G, f5''.below e4⟩)
        go_wp2_with fail
        go_at_call 18
        refine C5.out.mono ?_
        rintro e w7 ⟨A7, c7, rfl, k1, k2, k3, k4⟩
        clear C5
        have hs7 := k4.size
        have C6 := Lib.hid (same_yes A6 A7 c6 c7 t.files.length w5.heap.size w6.heap.size w6.heap.size w7.heap.size (namesOf t.files) w7 hNL.out (by omega) (by omega) (Nat.le_refl _) (e3.below k4) k3)
        have HB7 : Below N w w7 := (HB5.trans (e4.mono (by omega))).trans (k4.mono (by omega))
        clear e3 e4 k3 k4 f4'' f5'' HB5
        go_wp2_with fail
        go_at_call 24
        refine C6.out.mono ?_
        rintro e w8 ⟨rfl, l4⟩
        clear C6
        have hs8 := l4.size
        have HB8 := HB7.trans (l4.mono (by omega))
        go_wp2_with fail
        go_at_call 16
        refine (hdoes.out _).mono ?_
        rintro e w9 ⟨rfl, o4⟩
        go_wp2
        go_ret
        exact ⟨rfl, by rw [hN.out]; exact HB8.trans (o4.mono (by omega))⟩
end Go.Proofs.Ytpdegpppeepphaa.fil
