/- SavesTell, walked. -/
import Derived.Test.YtlbhegicapggeaaGreatSavRun
import Derived.Test.YtlbhegicapggeaaGreatSavRef2
import Derived.Test.YtlbhegicapggeaaGreatFilTwin
namespace Go.Proofs.YtlbhegicapggeaaGreat.sav
open Go.RowKit Go.Lib Go.Maps Go.WideMaps fil
set_option linter.unusedVariables false
set_option linter.unusedSimpArgs false
set_option linter.unnecessarySimpa false
set_option linter.unusedSectionVars false

section
variable {F0 G0 : Nat → Prop} {wb w w' : World} {fb rb : Nat} {s s' t t' : St}
/-- A call at the program's system, beside the document's. -/
theorem left_duo {k : FuncId} {args : Array Value} {r : Ending} (h : DuoR F0 G0 wb fb rb s t w) (H : ∀ F, IsFs w fb s F → Calls Tryz.prog k args w fun e w' => e = r ∧ Went F fb s' w w') :
    Calls Tryz.prog k args w fun e w' => e = r ∧ DuoR F0 G0 wb fb rb s' t w' := by
  obtain ⟨hT, F, G, h1, h2, h3, h4, h5⟩ := h
  refine (H F h4).mono ?_
  rintro e w' ⟨he, hT', F', k1, k2⟩
  have hz := hT.size
  refine ⟨he, hT.trans hT' (fun i hi => (h1 i hi).imp .inl id), F', G, fun b hb => ?_, h2, fun b hb hg => ?_, k2, h5.apart hT' fun b hg hf => h3 b hf hg⟩
  · rcases k1 b hb with h | h
    · exact h1 b h
    · exact .inr (by omega)
  · rcases k1 b hb with h | h
    · exact h3 b h hg
    · have := h5.lt b hg; omega
/-- A call at the document's system, beside the program's. -/
theorem right_duo {k : FuncId} {args : Array Value} {r : Ending} (h : DuoR F0 G0 wb fb rb s t w) (H : ∀ G, RIs w rb t G → Calls Tryz.prog k args w fun e w' => e = r ∧ RWent G rb t' w w') :
    Calls Tryz.prog k args w fun e w' => e = r ∧ DuoR F0 G0 wb fb rb s t' w' := by
  obtain ⟨hT, F, G, h1, h2, h3, h4, h5⟩ := h
  refine (H G h5).mono ?_
  rintro e w' ⟨he, hT', G', k1, k2⟩
  have hz := hT.size
  refine ⟨he, hT.trans hT' (fun i hi => (h2 i hi).imp .inr id), F, G', h1, fun b hb => ?_, fun b hf hg => ?_, h4.apart hT' fun b hf hg => h3 b hf hg, k2⟩
  · rcases k1 b hb with h | h
    · exact h2 b h
    · exact .inr (by omega)
  · rcases k1 b hg with h | h
    · exact h3 b hf h
    · have := h4.lt b hf; omega
theorem leftL {k : FuncId} {args : Array Value} {r : Ending} (h : DuoR F0 G0 wb fb rb s t w) (H : ∀ F, IsFs w fb s F → Calls Tryz.prog k args w fun e w' => e = r ∧ w = w') :
    Calls Tryz.prog k args w fun e w' => e = r ∧ w = w' := by
  obtain ⟨hT, F, G, h1, h2, h3, h4, h5⟩ := h
  exact H F h4
theorem rightL {k : FuncId} {args : Array Value} {r : Ending} (h : DuoR F0 G0 wb fb rb s t w) (H : ∀ G, RIs w rb t G → Calls Tryz.prog k args w fun e w' => e = r ∧ w = w') :
    Calls Tryz.prog k args w fun e w' => e = r ∧ w = w' := by
  obtain ⟨hT, F, G, h1, h2, h3, h4, h5⟩ := h
  exact H G h5
end
theorem duo_both {F0 G0 : Nat → Prop} {wx w1 W : World} {N fb rb : Nat} {s : St} (hB : Below N w1 wx) (hN : N ≤ wx.heap.size) (f1 : ∀ b, F0 b → N ≤ b) (f2 : ∀ b, G0 b → N ≤ b) (h : DuoR F0 G0 wx fb rb s s W) : BothR N w1 fb rb s W := by
  obtain ⟨hT, F, G, h1, h2, h3, h4, h5⟩ := h
  exact ⟨hB.trans (hT.below hN fun b hb => hb.elim (f1 b) (f2 b)), F, G, fun b hb => (h1 b hb).elim (f1 b) (fun h => by omega), fun b hb => (h2 b hb).elim (f2 b) (fun h => by omega), h3, h4, h5⟩
theorem up_fresh3 {w : World} (o : Obj) : Below w.heap.size w (w.alloc o) := (Below.refl _ w).alloc (Nat.le_refl _) o

set_option maxHeartbeats 4000000 in
set_option maxRecDepth 100000 in
theorem lawTell (cap : Int) (A : Option Addr) (c n : Nat) (ds : List Dt) (Aw : Option Addr) (nw cw : Nat) (us : List UInt8) (w : World) (hcap : -9223372036854775808 ≤ cap ∧ cap ≤ 9223372036854775807) (hn : n = ds.length) (hnm : n ≤ 9223372036854775807) (h : Dos w w.heap.size A ds) (hnil : ∀ d ∈ ds, d.kA = none → d.kc = 0)
    (hnw : nw = us.length) (hnw9 : nw ≤ 9223372036854775807) (hu : LRd w 0 w.heap.size Aw (bv us))
    (hdoes : Hid (∀ W, Calls Tryz.prog 16 #[] W fun e w' => e = .returned (.bool true) ∧ Below W.heap.size W w')) :
    Calls Tryz.prog 3 #[.int .i64 cap, .slice A n c, .slice Aw nw cw] w fun e w' => e = .returned (.bool true) ∧ Below w.heap.size w w' := by
  have CM := Lib.hid (much2_is A c n w.heap.size ds w hn hnm (Nat.le_refl _) h)
  have HN := Lib.hid hn
  have HD := Lib.hid h
  have HNIL := Lib.hid hnil
  have HNW := Lib.hid hnw
  have HU := Lib.hid hu
  clear hn h hnil hnw hu
  go_enter Tryz.func3, Tryz.ntmps3
  go_wp2_with fail
  go_at_call 4
  refine CM.out.mono ?_
  rintro e w1 ⟨he, hB1⟩
  clear CM
  rcases he with rfl | ⟨rfl, h120, h60⟩
  · go_wp2
    go_ret
    exact ⟨rfl, hB1⟩
  have H6 := Lib.hid h60
  rw [← HN.out] at h120
  clear h60
  have hz1 := hB1.size
  by_cases hw1 : 120 < nw
  · go_wp2
    go_ret
    exact ⟨rfl, hB1⟩
  by_cases hc : cap < 1 ∨ 1048576 < cap
  · have C0 := Lib.hid (new_no cap w1 hc)
    have C1 := Lib.hid (refNew_no cap w1 hc)
    clear hc
    go_wp2_with fail
    go_at_call 5
    refine C0.out.mono ?_
    rintro e w' ⟨rfl, rfl⟩
    clear C0
    go_wp2_with fail
    go_at_call 6
    refine C1.out.mono ?_
    rintro e w' ⟨rfl, rfl⟩
    clear C1
    go_wp2
    go_loopg [11] 1 (fun g s11 wr => s11 = .int .i64 0 ∧ wr = w1)
    case atStart => exact ⟨rfl, rfl⟩
    case round =>
      obtain ⟨rfl, rfl⟩ := hrel
      by_cases h0 : 0 < n
      · have hd0 : decide ((0 : Int) < (n : Int)) = true := decide_eq_true (by omega)
        by_cases h1 : 0 < nw
        · have hd1 : decide ((0 : Int) < (nw : Int)) = true := decide_eq_true (by omega)
          go_wp2_with fail
          go_at_call 16
          refine (hdoes.out _).mono ?_
          rintro e w9 ⟨rfl, o4⟩
          go_wp2
          go_ret
          exact ⟨rfl, hB1.trans (o4.mono hz1)⟩
        · have hd1 : decide ((0 : Int) < (nw : Int)) = false := decide_eq_false (by omega)
          go_wp2_with fail
          go_at_call 16
          refine (hdoes.out _).mono ?_
          rintro e w9 ⟨rfl, o4⟩
          go_wp2
          go_ret
          exact ⟨rfl, hB1.trans (o4.mono hz1)⟩
      · have hd0 : decide ((0 : Int) < (n : Int)) = false := decide_eq_false (by omega)
        go_wp2_with fail
        go_at_call 16
        refine (hdoes.out _).mono ?_
        rintro e w9 ⟨rfl, o4⟩
        go_wp2
        go_ret
        exact ⟨rfl, hB1.trans (o4.mono hz1)⟩
  obtain ⟨k, rfl⟩ : ∃ k : Nat, cap = k := ⟨cap.toNat, by omega⟩
  have hk1 : 1 ≤ k := by omega
  have hk2 : k ≤ 1048576 := by omega
  have C0 := Lib.hid (new_is k w1 hk1 hk2)
  clear hc
  go_wp2_with fail
  go_at_call 5
  refine C0.out.mono ?_
  rintro e w2 ⟨rfl, hB2, hI2⟩
  clear C0
  have hz2 := hB2.size
  have C1 := Lib.hid (refNew_is k w2 hk1 hk2)
  go_wp2_with fail
  go_at_call 6
  refine C1.out.mono ?_
  rintro e w3 ⟨rfl, hB3, hI3⟩
  clear C1
  have hz3 := hB3.size
  have HB0 : BothR w1.heap.size w1 (w1.heap.size + 1) w2.heap.size (sNew k) w3 := ⟨hB2.trans (hB3.mono hz2), _, _, fun b hb => hb.1, fun b hb => Nat.le_trans hz2 hb.1, fun b hb hg => by have := hb.2; have := hg.1; omega, hI2.below hB3, hI3⟩
  have HDn : Hid (Dos w1 w.heap.size A ds) := Lib.hid (HD.out.belowN hB1)
  have HUn : Hid (LRd w1 0 w.heap.size Aw (bv us)) := Lib.hid (HU.out.belowN hB1)
  have HBW := Lib.hid hB1
  have hzw : w.heap.size ≤ w1.heap.size := hz1
  clear hI2 hI3 hB2 hB3 hB1
  generalize hN1 : w1.heap.size = N at *
  generalize w2.heap.size = rb at *
  have HNn := Lib.hid hN1
  clear hN1
  go_wp2
  go_loopg [11] n (fun g s11 wr => ∃ (i : Nat) (s : St), s11 = .int .i64 i ∧ i ≤ n ∧ n - i ≤ g ∧ BothR N w1 (N + 1) rb s wr ∧ s.starts ≤ i)
  case atStart => exact ⟨0, sNew k, rfl, Nat.zero_le _, by omega, HB0, Nat.le_refl _⟩
  case round =>
    obtain ⟨i, s, rfl, hi, hg, hBo, hst⟩ := hrel
    clear HB0
    obtain ⟨hBn, F, G, f1, f2, f3, f4, f5⟩ := hBo
    have hnw1 : N ≤ wr.heap.size := by have h1 := hBn.size; have h2 := HNn.out; omega
    have HEnd : Hid (Below w.heap.size w wr) := Lib.hid (HBW.out.trans (hBn.mono (show w.heap.size ≤ N by omega)))
    by_cases hlt : i < n
    · by_cases hlw : i < nw
      · have HDr := HDn.out.belowN (hBn.mono (show w.heap.size ≤ N by omega))
        obtain ⟨d, hd⟩ : ∃ d, ds[i]? = some d := ⟨ds[i]'(by rw [← HN.out]; exact hlt), List.getElem?_eq_getElem _⟩
        have hdm := List.mem_of_getElem? hd
        have hok := HDr.ok d hdm
        have hk6 := H6.out d hdm
        have hnl := HNIL.out d hdm
        obtain ⟨b, off, rfl, hb, g0, g1, g2, g3, g4, g5⟩ := HDr.at hd
        obtain ⟨b2, o2, rfl, hb2, hb3, hb4⟩ := (HUn.out.belowN (hBn.mono (show w.heap.size ≤ N by omega))) (by rw [bv_length, ← HNW.out]; omega)
        have hiu : i < us.length := by rw [← HNW.out]; exact hlw
        have hc3 := hb4 i _ (show (bv us)[i]? = some (.int .u8 (us[i]'hiu).toNat) by simp [bv, List.getElem?_eq_getElem hiu])
        have hu8 : (us[i]'hiu).toNat < 256 := (us[i]'hiu).toNat_lt
        clear hb4
        generalize (us[i]'hiu).toNat = u at *
        clear hiu
        have hX := At.new wr 34 #[.int .u8 d.what, .string d.a, .string d.b, .string d.t, .int .i64 d.n, .slice d.kA d.k.length d.kc]
        have hup := up_fresh3 (w := wr) (.cells #[.int .u8 d.what, .string d.a, .string d.b, .string d.t, .int .i64 d.n, .slice d.kA d.k.length d.kc] 34)
        have k7 : (wr.alloc (.cells #[.int .u8 d.what, .string d.a, .string d.b, .string d.t, .int .i64 d.n, .slice d.kA d.k.length d.kc] 34)).cell? ⟨b2, o2 + i, none⟩ = some (.int .u8 u) := (hup.cell (p := ⟨b2, o2 + i, none⟩) (by show b2 < _; omega)).trans hc3
        obtain ⟨m, hm, hm9⟩ : ∃ m, u % 9 = m ∧ m < 9 := ⟨_, rfl, by omega⟩
        have hz : (u : Int) % 9 = (m : Int) := by omega
        clear hm
        go_upto_region 11 with (fail)
        generalize wr.alloc (.cells #[.int .u8 d.what, .string d.a, .string d.b, .string d.t, .int .i64 d.n, .slice d.kA d.k.length d.kc] 34) = wx at *
        have f4x := f4.below hup
        have f5x := f5.below hup
        have hFl := f4.lt
        have hGl := f5.lt
        have hXl := hX.lt
        have hBx : Below N w1 wx := hBn.trans (hup.mono hnw1)
        have hNx : N ≤ wx.heap.size := by have := hup.size; omega
        have D0 : DuoR F G wx (N + 1) rb s s wx := DuoR.start f4x f5x f3
        have hFG : ∀ b, F b ∨ G b → N ≤ b := fun b hb => hb.elim (f1 b) (f2 b)
        have SK : Hid (∀ W, Turned (fun b => F b ∨ G b) wx W → W.cell? ⟨wr.heap.size, 0, none⟩ = some (.int .u8 d.what) ∧ W.cell? ⟨wr.heap.size, 1, none⟩ = some (.string d.a) ∧ W.cell? ⟨wr.heap.size, 2, none⟩ = some (.string d.b) ∧ W.cell? ⟨wr.heap.size, 3, none⟩ = some (.string d.t) ∧ W.cell? ⟨wr.heap.size, 4, none⟩ = some (.int .i64 d.n) ∧ W.cell? ⟨wr.heap.size, 5, none⟩ = some (.slice d.kA d.k.length d.kc)) := Lib.hid (fun W hW => by
          have hAW := hW.at hX (fun hb => hb.elim (fun h => by have := hFl _ h; omega) (fun h => by have := hGl _ h; omega))
          exact ⟨hAW.cell 0, hAW.cell 1, hAW.cell 2, hAW.cell 3, hAW.cell 4, hAW.cell 5⟩)
        have LK : Hid (∀ W, Turned (fun b => F b ∨ G b) wx W → LRd W 0 w.heap.size d.kA (iv d.k)) := Lib.hid (fun W hW => by
          have hBW : Below N w1 W := hBx.trans (hW.below hNx hFG)
          exact (HDn.out.belowN (hBW.mono (show w.heap.size ≤ N by omega))).lists d hdm)
        have HEN : Hid (∀ W s2, DuoR F G wx (N + 1) rb s2 s2 W → BothR N w1 (N + 1) rb s2 W) := Lib.hid (fun W s2 hW => duo_both hBx hNx f1 f2 hW)
        have hst' : s.starts ≤ 1000 := by omega
        obtain ⟨j0, j1, j2, j3, j4, j5⟩ := SK.out wx (.refl _ _)
        have E5 : Hid (∀ W s2, DuoR F G wx (N + 1) rb s2 s2 W → Calls Tryz.prog 15 #[.pointer (some ⟨N + 1, 0, none⟩), .pointer (some ⟨rb, 0, none⟩)] W fun e w' => e = .returned (.bool true) ∧ DuoR F G wx (N + 1) rb s2 s2 w') := Lib.hid (fun W s2 hW => (one_duoR hW).mono fun e w' ⟨he, h1, h2⟩ => ⟨he, h1⟩)
        have ht6 : d.t.size ≤ 1000000 := by have := hk6.2; omega
        have hk6' : d.k.length ≤ 60 := hk6.1
        have HF1 : Hid (∀ b, F b ∨ wx.heap.size ≤ b → b < 0 ∨ w.heap.size ≤ b) := Lib.hid (fun b hb => .inr (hb.elim (fun h => by have := f1 b h; omega) (fun h => by omega)))
        have HG1 : Hid (∀ b, G b ∨ wx.heap.size ≤ b → b < 0 ∨ w.heap.size ≤ b) := Lib.hid (fun b hb => .inr (hb.elim (fun h => by have := f2 b h; omega) (fun h => by omega)))
        have HOK := Lib.hid hok
        have HD0 := Lib.hid D0
        have HDR : Hid (DuoR F G wx (N + 1) rb s s wx.drew) := Lib.hid (D0.move (below_drew (Below.refl _ _)))
        have HST := Lib.hid hst
        have HNL := Lib.hid hnl
        clear f1 f2 f3 f4 f5 f4x f5x hFl hGl hBx hFG hX hup D0 hBn HDr hd hdm hok hk6 hnl g0 g1 g2 g3 g4 g5 hc3 hst
        match m, hm9, hz with
        | 0, _, hz =>
          have HS2 : Hid (s.starts ≤ i + 1) := Lib.hid (by have := HST.out; omega)
          have C1 := leftL HD0.out fun F' h => load_is d.a wx HOK.out.a h
          have C2 := rightL HD0.out fun G' h => refLoad_is d.a wx HOK.out.a h
          generalize sLoad s d.a.data.toList = r at C1 C2
          obtain ⟨lb, le⟩ := r
          simp only at C1 C2
          have hzz : (le != le) = false := by simp
          have C1 := Lib.hid C1
          have C2 := Lib.hid C2
          go_wp2_with fail
          go_at_call 7
          refine C1.out.mono ?_
          rintro e w' ⟨rfl, rfl⟩
          go_wp2_with fail
          go_at_call 8
          refine C2.out.mono ?_
          rintro e w' ⟨rfl, rfl⟩
          go_wp2_with fail
          go_at_call 15
          refine (E5.out _ _ HD0.out).mono ?_
          rintro e w5 ⟨rfl, hD5⟩
          have HB5 := Lib.hid (HEN.out _ _ hD5)
          clear hD5
          go_wp2
          go_roundg (n - (i + 1))
          case measure => omega
          case rel => exact ⟨i + 1, s, by go_num, by omega, by omega, HB5.out, HS2.out⟩
        | 1, _, hz =>
          have C1 : Hid (∀ W, DuoR F G wx (N + 1) rb s s W → Calls Tryz.prog 9 #[.pointer (some ⟨N + 1, 0, none⟩)] W fun e w' => e = .returned (.int .i64 (sClean s).1) ∧ DuoR F G wx (N + 1) rb (sClean s).2 s w') := Lib.hid (fun W hW => left_duo hW fun F' h => clean_is W h)
          have C2 : Hid (∀ W, DuoR F G wx (N + 1) rb (sClean s).2 s W → Calls Tryz.prog 10 #[.pointer (some ⟨rb, 0, none⟩)] W fun e w' => e = .returned (.int .i64 (sClean s).1) ∧ DuoR F G wx (N + 1) rb (sClean s).2 (sClean s).2 w') := Lib.hid (fun W hW => right_duo hW fun F' h => refClean_is W h)
          have HS2 : Hid ((sClean s).2.starts ≤ i + 1) := Lib.hid (by rw [clean_starts]; have := HST.out; omega)
          generalize sClean s = r at *
          obtain ⟨z, s2⟩ := r
          simp only at C1 C2 HS2
          have hzz : (z != z) = false := by simp
          go_wp2_with fail
          go_at_call 9
          refine (C1.out _ HD0.out).mono ?_
          rintro e w2 ⟨rfl, hD1⟩
          go_wp2_with fail
          go_at_call 10
          refine (C2.out _ hD1).mono ?_
          rintro e w3 ⟨rfl, hD2⟩
          clear hD1
          go_wp2_with fail
          go_at_call 15
          refine (E5.out _ _ hD2).mono ?_
          rintro e w5 ⟨rfl, hD5⟩
          have HB5 := Lib.hid (HEN.out _ _ hD5)
          clear hD5
          go_wp2
          go_roundg (n - (i + 1))
          case measure => omega
          case rel => exact ⟨i + 1, s2, by go_num, by omega, by omega, HB5.out, HS2.out⟩
        | 2, _, hz =>
          have C1 : Hid (∀ W, DuoR F G wx (N + 1) rb s s W → Calls Tryz.prog 11 #[.pointer (some ⟨N + 1, 0, none⟩), .string d.a, .string d.t] W fun e w' => e = .returned (.int .i64 (sWrite s d.a.data.toList d.t.data.toList).1) ∧ DuoR F G wx (N + 1) rb (sWrite s d.a.data.toList d.t.data.toList).2 s w') := Lib.hid (fun W hW => left_duo hW fun F' h => write_is d.a d.t W HOK.out.a HOK.out.t h)
          have C2 : Hid (∀ W, DuoR F G wx (N + 1) rb (sWrite s d.a.data.toList d.t.data.toList).2 s W → Calls Tryz.prog 12 #[.pointer (some ⟨rb, 0, none⟩), .string d.a, .string d.t] W fun e w' => e = .returned (.int .i64 (sWrite s d.a.data.toList d.t.data.toList).1) ∧ DuoR F G wx (N + 1) rb (sWrite s d.a.data.toList d.t.data.toList).2 (sWrite s d.a.data.toList d.t.data.toList).2 w') := Lib.hid (fun W hW => right_duo hW fun F' h => refWrite_is d.a d.t W HOK.out.a ht6 h)
          have HS2 : Hid ((sWrite s d.a.data.toList d.t.data.toList).2.starts ≤ i + 1) := Lib.hid (by rw [write_starts]; have := HST.out; omega)
          generalize sWrite s d.a.data.toList d.t.data.toList = r at *
          obtain ⟨z, s2⟩ := r
          simp only at C1 C2 HS2
          have hzz : (z != z) = false := by simp
          generalize hkk : d.k.length = kl at *
          generalize d.what = xw at *
          generalize d.a = xa at *
          generalize d.b = xb at *
          generalize d.t = xt at *
          generalize d.n = xn at *
          generalize d.kA = xA at *
          generalize d.kc = xc at *
          generalize wr.heap.size = X at *
          have S1 := SK.out wx.drew ((Turned.refl _ wx).drew)
          go_wp2_with fail
          go_region_held3 (fun W => W.cell? ⟨X, 0, none⟩ = some (.int .u8 xw) ∧ W.cell? ⟨X, 1, none⟩ = some (.string xa) ∧ W.cell? ⟨X, 2, none⟩ = some (.string xb) ∧ W.cell? ⟨X, 3, none⟩ = some (.string xt) ∧ W.cell? ⟨X, 4, none⟩ = some (.int .i64 xn) ∧ W.cell? ⟨X, 5, none⟩ = some (.slice xA kl xc))
            (first | assumption | exact ⟨by assumption, by assumption, by assumption, by assumption, by assumption, by assumption⟩)
            (first
              | (go_at_call 11; refine (C1.out _ HDR.out).mono ?_; rintro e w2 ⟨rfl, hD1⟩; have hS1 := SK.out w2 hD1.1)
              | (go_at_call 12; refine (C2.out _ hD1).mono ?_; rintro e w3 ⟨rfl, hD2⟩; have hS2 := SK.out w3 hD2.1))
          go_wp2_with fail
          go_at_call 15
          refine (E5.out _ _ hD2).mono ?_
          rintro e w5 ⟨rfl, hD5⟩
          have HB5 := Lib.hid (HEN.out _ _ hD5)
          clear hD5
          go_wp2
          go_roundg (n - (i + 1))
          case measure => omega
          case rel => exact ⟨i + 1, s2, by go_num, by omega, by omega, HB5.out, HS2.out⟩
        | 3, _, hz =>
          have C1 : Hid (∀ W, DuoR F G wx (N + 1) rb s s W → Calls Tryz.prog 11 #[.pointer (some ⟨N + 1, 0, none⟩), .string d.a, .string d.t] W fun e w' => e = .returned (.int .i64 (sWrite s d.a.data.toList d.t.data.toList).1) ∧ DuoR F G wx (N + 1) rb (sWrite s d.a.data.toList d.t.data.toList).2 s w') := Lib.hid (fun W hW => left_duo hW fun F' h => write_is d.a d.t W HOK.out.a HOK.out.t h)
          have C2 : Hid (∀ W, DuoR F G wx (N + 1) rb (sWrite s d.a.data.toList d.t.data.toList).2 s W → Calls Tryz.prog 12 #[.pointer (some ⟨rb, 0, none⟩), .string d.a, .string d.t] W fun e w' => e = .returned (.int .i64 (sWrite s d.a.data.toList d.t.data.toList).1) ∧ DuoR F G wx (N + 1) rb (sWrite s d.a.data.toList d.t.data.toList).2 (sWrite s d.a.data.toList d.t.data.toList).2 w') := Lib.hid (fun W hW => right_duo hW fun F' h => refWrite_is d.a d.t W HOK.out.a ht6 h)
          have HS2 : Hid ((sWrite s d.a.data.toList d.t.data.toList).2.starts ≤ i + 1) := Lib.hid (by rw [write_starts]; have := HST.out; omega)
          generalize sWrite s d.a.data.toList d.t.data.toList = r at *
          obtain ⟨z, s2⟩ := r
          simp only at C1 C2 HS2
          have hzz : (z != z) = false := by simp
          generalize hkk : d.k.length = kl at *
          generalize d.what = xw at *
          generalize d.a = xa at *
          generalize d.b = xb at *
          generalize d.t = xt at *
          generalize d.n = xn at *
          generalize d.kA = xA at *
          generalize d.kc = xc at *
          generalize wr.heap.size = X at *
          have S1 := SK.out wx.drew ((Turned.refl _ wx).drew)
          go_wp2_with fail
          go_region_held3 (fun W => W.cell? ⟨X, 0, none⟩ = some (.int .u8 xw) ∧ W.cell? ⟨X, 1, none⟩ = some (.string xa) ∧ W.cell? ⟨X, 2, none⟩ = some (.string xb) ∧ W.cell? ⟨X, 3, none⟩ = some (.string xt) ∧ W.cell? ⟨X, 4, none⟩ = some (.int .i64 xn) ∧ W.cell? ⟨X, 5, none⟩ = some (.slice xA kl xc))
            (first | assumption | exact ⟨by assumption, by assumption, by assumption, by assumption, by assumption, by assumption⟩)
            (first
              | (go_at_call 11; refine (C1.out _ HDR.out).mono ?_; rintro e w2 ⟨rfl, hD1⟩; have hS1 := SK.out w2 hD1.1)
              | (go_at_call 12; refine (C2.out _ hD1).mono ?_; rintro e w3 ⟨rfl, hD2⟩; have hS2 := SK.out w3 hD2.1))
          go_wp2_with fail
          go_at_call 15
          refine (E5.out _ _ hD2).mono ?_
          rintro e w5 ⟨rfl, hD5⟩
          have HB5 := Lib.hid (HEN.out _ _ hD5)
          clear hD5
          go_wp2
          go_roundg (n - (i + 1))
          case measure => omega
          case rel => exact ⟨i + 1, s2, by go_num, by omega, by omega, HB5.out, HS2.out⟩
        | 4, _, hz =>
          have C1 : Hid (∀ W, DuoR F G wx (N + 1) rb s s W → Calls Tryz.prog 11 #[.pointer (some ⟨N + 1, 0, none⟩), .string d.a, .string d.t] W fun e w' => e = .returned (.int .i64 (sWrite s d.a.data.toList d.t.data.toList).1) ∧ DuoR F G wx (N + 1) rb (sWrite s d.a.data.toList d.t.data.toList).2 s w') := Lib.hid (fun W hW => left_duo hW fun F' h => write_is d.a d.t W HOK.out.a HOK.out.t h)
          have C2 : Hid (∀ W, DuoR F G wx (N + 1) rb (sWrite s d.a.data.toList d.t.data.toList).2 s W → Calls Tryz.prog 12 #[.pointer (some ⟨rb, 0, none⟩), .string d.a, .string d.t] W fun e w' => e = .returned (.int .i64 (sWrite s d.a.data.toList d.t.data.toList).1) ∧ DuoR F G wx (N + 1) rb (sWrite s d.a.data.toList d.t.data.toList).2 (sWrite s d.a.data.toList d.t.data.toList).2 w') := Lib.hid (fun W hW => right_duo hW fun F' h => refWrite_is d.a d.t W HOK.out.a ht6 h)
          have HS2 : Hid ((sWrite s d.a.data.toList d.t.data.toList).2.starts ≤ i + 1) := Lib.hid (by rw [write_starts]; have := HST.out; omega)
          generalize sWrite s d.a.data.toList d.t.data.toList = r at *
          obtain ⟨z, s2⟩ := r
          simp only at C1 C2 HS2
          have hzz : (z != z) = false := by simp
          generalize hkk : d.k.length = kl at *
          generalize d.what = xw at *
          generalize d.a = xa at *
          generalize d.b = xb at *
          generalize d.t = xt at *
          generalize d.n = xn at *
          generalize d.kA = xA at *
          generalize d.kc = xc at *
          generalize wr.heap.size = X at *
          have S1 := SK.out wx.drew ((Turned.refl _ wx).drew)
          go_wp2_with fail
          go_region_held3 (fun W => W.cell? ⟨X, 0, none⟩ = some (.int .u8 xw) ∧ W.cell? ⟨X, 1, none⟩ = some (.string xa) ∧ W.cell? ⟨X, 2, none⟩ = some (.string xb) ∧ W.cell? ⟨X, 3, none⟩ = some (.string xt) ∧ W.cell? ⟨X, 4, none⟩ = some (.int .i64 xn) ∧ W.cell? ⟨X, 5, none⟩ = some (.slice xA kl xc))
            (first | assumption | exact ⟨by assumption, by assumption, by assumption, by assumption, by assumption, by assumption⟩)
            (first
              | (go_at_call 11; refine (C1.out _ HDR.out).mono ?_; rintro e w2 ⟨rfl, hD1⟩; have hS1 := SK.out w2 hD1.1)
              | (go_at_call 12; refine (C2.out _ hD1).mono ?_; rintro e w3 ⟨rfl, hD2⟩; have hS2 := SK.out w3 hD2.1))
          go_wp2_with fail
          go_at_call 15
          refine (E5.out _ _ hD2).mono ?_
          rintro e w5 ⟨rfl, hD5⟩
          have HB5 := Lib.hid (HEN.out _ _ hD5)
          clear hD5
          go_wp2
          go_roundg (n - (i + 1))
          case measure => omega
          case rel => exact ⟨i + 1, s2, by go_num, by omega, by omega, HB5.out, HS2.out⟩
        | q + 5, _, hz =>
          have E1 : Hid (∀ W, DuoR F G wx (N + 1) rb s s W → Calls Tryz.prog 13 #[.pointer (some ⟨N + 1, 0, none⟩), .agg #[.int .u8 d.what, .string d.a, .string d.b, .string d.t, .int .i64 d.n, .slice d.kA d.k.length d.kc]] W fun e w' => e = .returned (.int .i64 (fil.step s d).1) ∧ DuoR F G wx (N + 1) rb (fil.step s d).2 s w') := Lib.hid (fun W hW =>
            with_duoR d 0 w.heap.size HOK.out (LK.out W hW.1) HF1.out (by omega) hW)
          have E2 : Hid (∀ W, DuoR F G wx (N + 1) rb (fil.step s d).2 s W → Calls Tryz.prog 14 #[.pointer (some ⟨rb, 0, none⟩), .agg #[.int .u8 d.what, .string d.a, .string d.b, .string d.t, .int .i64 d.n, .slice d.kA d.k.length d.kc]] W fun e w' => e = .returned (.int .i64 (fil.step s d).1) ∧ DuoR F G wx (N + 1) rb (fil.step s d).2 (fil.step s d).2 w') := Lib.hid (fun W hW =>
            by_duoR d 0 w.heap.size HOK.out (LK.out W hW.1) HG1.out (by omega) ht6 (by omega) HNL.out hW)
          have HS2 : Hid ((fil.step s d).2.starts ≤ i + 1) := Lib.hid (by have := step_starts_le s d; have := HST.out; omega)
          generalize hm5 : q + 5 = m at hz
          have hm6 : 5 ≤ m := by omega
          clear hm5
          have m0 : ((m : Int) == 0) = false := by simp; omega
          have m1 : ((m : Int) == 1) = false := by simp; omega
          have m2 : ((m : Int) == 2) = false := by simp; omega
          have m3 : ((m : Int) == 3) = false := by simp; omega
          have m4 : ((m : Int) == 4) = false := by simp; omega
          have n0 : ¬ (m : Int) = 0 := by omega
          have n1 : ¬ (m : Int) = 1 := by omega
          have n2 : ¬ (m : Int) = 2 := by omega
          have n3 : ¬ (m : Int) = 3 := by omega
          have n4 : ¬ (m : Int) = 4 := by omega
          generalize (fil.step s d).1 = z at *
          generalize (fil.step s d).2 = s2 at *
          have hzz : (z != z) = false := by simp
          generalize hkk : d.k.length = kl at *
          generalize d.what = xw at *
          generalize d.a = xa at *
          generalize d.b = xb at *
          generalize d.t = xt at *
          generalize d.n = xn at *
          generalize d.kA = xA at *
          generalize d.kc = xc at *
          generalize wr.heap.size = X at *
          have S1 := SK.out wx.drew ((Turned.refl _ wx).drew)
          go_wp2_with fail
          go_region_held3 (fun W => W.cell? ⟨X, 0, none⟩ = some (.int .u8 xw) ∧ W.cell? ⟨X, 1, none⟩ = some (.string xa) ∧ W.cell? ⟨X, 2, none⟩ = some (.string xb) ∧ W.cell? ⟨X, 3, none⟩ = some (.string xt) ∧ W.cell? ⟨X, 4, none⟩ = some (.int .i64 xn) ∧ W.cell? ⟨X, 5, none⟩ = some (.slice xA kl xc))
            (first | assumption | exact ⟨by assumption, by assumption, by assumption, by assumption, by assumption, by assumption⟩)
            (first
              | (go_at_call 13; refine (E1.out _ HDR.out).mono ?_; rintro e w2 ⟨rfl, hD1⟩; have hS1 := SK.out w2 hD1.1)
              | (go_at_call 14; refine (E2.out _ hD1).mono ?_; rintro e w3 ⟨rfl, hD2⟩; have hS2 := SK.out w3 hD2.1))
          go_wp2_with fail
          go_at_call 15
          refine (E5.out _ _ hD2).mono ?_
          rintro e w5 ⟨rfl, hD5⟩
          have HB5 := Lib.hid (HEN.out _ _ hD5)
          clear hD5
          go_wp2
          go_roundg (n - (i + 1))
          case measure => omega
          case rel => exact ⟨i + 1, s2, by go_num, by omega, by omega, HB5.out, HS2.out⟩
      · have hd0 : decide ((i : Int) < (n : Int)) = true := decide_eq_true (by omega)
        have hd1 : decide ((i : Int) < (nw : Int)) = false := decide_eq_false (by omega)
        clear hBn f1 f2 f3 f4 f5
        go_wp2_with fail
        go_at_call 16
        refine (hdoes.out _).mono ?_
        rintro e w9 ⟨rfl, o4⟩
        have HE := HEnd.out.trans (o4.mono HEnd.out.size)
        go_wp2
        go_ret
        exact ⟨rfl, HE⟩
    · have hd0 : decide ((i : Int) < (n : Int)) = false := decide_eq_false (by omega)
      clear hBn f1 f2 f3 f4 f5
      go_wp2_with fail
      go_at_call 16
      refine (hdoes.out _).mono ?_
      rintro e w9 ⟨rfl, o4⟩
      have HE := HEnd.out.trans (o4.mono HEnd.out.size)
      go_wp2
      go_ret
      exact ⟨rfl, HE⟩
end Go.Proofs.YtlbhegicapggeaaGreat.sav
