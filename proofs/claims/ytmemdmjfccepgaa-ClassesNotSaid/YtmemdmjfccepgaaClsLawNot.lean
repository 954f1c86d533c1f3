/- ClassesNot. -/
import Derived.Test.YtmemdmjfccepgaaClsDoes2
import Derived.BigQuiet
import Derived.Deep.QuietTactic
namespace Go.Proofs.Ytmemdmjfccepgaa.cls
open Go.RowKit Go.Lib
set_option linter.unusedVariables false
set_option linter.unusedSimpArgs false
set_option linter.unnecessarySimpa false
set_option linter.unusedSectionVars false

/-- Either none of both, or one that has what the other one has not. -/
theorem two_ways (l : List UInt8) (o : List UInt8) (h : l.head? = some 91) (ho : (l.drop 1).head? ≠ some 94 ∧ o = 91 :: 94 :: l.drop 1 ∨ (l.drop 1).head? = some 94 ∧ (l.drop 2).head? ≠ some 94 ∧ o = 91 :: l.drop 2) :
    (parseL l = none ∧ parseL o = none) ∨ ∃ f g r, parseL l = some (f, r) ∧ parseL o = some (g, r) ∧ ∀ c, f c ≠ g c := by
  have hn : ∀ f : Nat → Bool, ∀ c, f c ≠ not1 f c := fun f c => by unfold not1; cases f c <;> simp
  rcases ho with ⟨h1, rfl⟩ | ⟨h1, h2, rfl⟩
  · have e1 : parseL l = allN noB (l.drop 1) := by unfold parseL; rw [if_pos h, if_neg h1]
    have e2 : parseL (91 :: 94 :: l.drop 1) = (allN noB (l.drop 1)).map fun x => (not1 x.1, x.2) := by
      unfold parseL
      rw [if_pos (by simp), if_pos (by simp)]
      simp
    rw [e1, e2]
    cases allN noB (l.drop 1) with
    | none => exact .inl ⟨rfl, rfl⟩
    | some x => exact .inr ⟨x.1, not1 x.1, x.2, rfl, rfl, hn x.1⟩
  · have e1 : parseL l = (allN noB (l.drop 2)).map fun x => (not1 x.1, x.2) := by unfold parseL; rw [if_pos h, if_pos h1]
    have e2 : parseL (91 :: l.drop 2) = allN noB (l.drop 2) := by
      unfold parseL
      rw [if_pos (by simp), if_neg (by simpa using h2)]
      simp
    rw [e1, e2]
    cases allN noB (l.drop 2) with
    | none => exact .inl ⟨rfl, rfl⟩
    | some x => exact .inr ⟨not1 x.1, x.1, x.2, rfl, rfl, fun c e => hn x.1 c e.symm⟩

set_option maxHeartbeats 4000000 in
set_option maxRecDepth 100000 in
theorem law6 (l : List UInt8) (w : World) (hl : l.length ≤ maxLen) (hV : Vs w.heap.size w) :
    Calls Try.prog 6 #[.string (B l)] w fun e w' => e = .returned (.bool true) ∧ Below w.heap.size w w' := by
  unfold maxLen at hl
  have HV := Lib.hid hV
  have DD := Lib.hid (does_is w hV)
  have HLl := Lib.hid hl
  obtain ⟨m, hm⟩ : ∃ m, l.length = m := ⟨_, rfl⟩
  have hsz : (B l).size = m := by rw [B_size]; exact hm
  have HM := Lib.hid hm
  rw [hm] at hl
  clear hm hV
  by_cases hbig : 300 < m
  · go_enter Try.func6, Try.ntmps6
    go_wp2_with (go_at_call 12; refine DD.out.mono ?_; rintro e w' ⟨rfl, hB⟩)
    go_ret
    exact ⟨rfl, hB⟩
  · by_cases hsm : m < 2
    · go_enter Try.func6, Try.ntmps6
      go_wp2_with (go_at_call 12; refine DD.out.mono ?_; rintro e w' ⟨rfl, hB⟩)
      go_ret
      exact ⟨rfl, hB⟩
    · have i0 := index_at l 0 0 rfl (by rw [HM.out]; omega)
      obtain ⟨a, ha⟩ : ∃ a, (l.getD 0 0).toNat = a := ⟨_, rfl⟩
      have a6 : a < 256 := by rw [← ha]; exact (l.getD 0 0).toNat_lt
      rw [ha] at i0
      have HA := Lib.hid ha
      clear ha
      by_cases h91 : a = 91
      · subst h91
        have hhead : l.head? = some 91 := by
          have h0 : l.getD 0 0 = 91 := toNat_eq _ _ HA.out
          cases l with
          | nil => have := HM.out; simp at this; omega
          | cons x r => simpa using h0
        have HH := Lib.hid hhead
        have i1 := index_at l 1 1 rfl (by rw [HM.out]; omega)
        obtain ⟨b, hb⟩ : ∃ b, (l.getD 1 0).toNat = b := ⟨_, rfl⟩
        have b6 : b < 256 := by rw [← hb]; exact (l.getD 1 0).toNat_lt
        rw [hb] at i1
        have HBB := Lib.hid hb
        have hd1 : (l.drop 1).head? = some (l.getD 1 0) := by
          cases l with
          | nil => cases hhead
          | cons x r => cases r with
            | nil => have := HM.out; simp at this; omega
            | cons y r => simp
        have HD1 := Lib.hid hd1
        have s1 := slice_drop l 1 1 rfl (by rw [HM.out]; omega)
        have z1 : (l.drop 1).length = m - 1 := by rw [List.length_drop, HM.out]
        have hu1 : ∃ u, l.drop 1 = u := ⟨_, rfl⟩
        obtain ⟨u, hu⟩ := hu1
        rw [hu] at s1 z1
        have zz1 : (B u).size = m - 1 := by rw [B_size]; exact z1
        have p1 : (⟨#[91, 94]⟩ : ByteArray) ++ B u = B (91 :: 94 :: u) := B_app [91, 94] u
        have HU := Lib.hid hu
        clear hu
        clear hb hhead hd1
        by_cases h94 : b = 94
        · subst h94
          have s2 := slice_drop l 2 2 rfl (by rw [HM.out]; omega)
          have z2 : (l.drop 2).length = m - 2 := by rw [List.length_drop, HM.out]
          have hv1 : ∃ v, l.drop 2 = v := ⟨_, rfl⟩
          obtain ⟨v, hv⟩ := hv1
          rw [hv] at s2 z2
          have zz2 : (B v).size = m - 2 := by rw [B_size]; exact z2
          have p2 : (⟨#[91]⟩ : ByteArray) ++ B v = B (91 :: v) := B_app [91] v
          have HVV := Lib.hid hv
          clear hv
          have hd94 : (l.drop 1).head? = some 94 := by rw [HD1.out]; congr 1; exact toNat_eq _ _ HBB.out
          have H94 := Lib.hid hd94
          clear hd94
          by_cases hm2 : m = 2
          · have hn2 : (l.drop 2).head? ≠ some 94 := by
              have : l.drop 2 = [] := List.eq_nil_of_length_eq_zero (by rw [HVV.out, z2]; omega)
              rw [this]; simp
            have W2 := two_ways l (91 :: v) HH.out (.inr ⟨H94.out, hn2, by rw [HVV.out]⟩)
            clear hn2
            have HZ : Hid ((91 :: v : List UInt8).length ≤ 1000000000) := Lib.hid (by simp only [List.length_cons]; omega)
            rcases W2 with ⟨e1, e2⟩ | ⟨f, g, r, e1, e2, hne⟩
            · have C1 := Lib.hid (fun (W : World) (hW : Vs W.heap.size W) => parse0 l none e1 W (by rw [HM.out]; omega) hW)
              have C2 := Lib.hid (fun (W : World) (hW : Vs W.heap.size W) => parse0 (91 :: v) none e2 W HZ.out hW)
              rw [retP_none] at C1 C2
              clear e1 e2
              go_enter Try.func6, Try.ntmps6
              go_wp2_with fail
              go_at_call 10
              refine (C1.out _ HV.out).mono ?_
              rintro e w1 ⟨rfl, hb1⟩
              go_wp2_with (first | (refine wpList_allocA rfl rfl ?_; intro w2 hs2 ha2 hb2) | (refine wpList_storeA rfl _ _ rfl _ _ rfl rfl _ ha2 ?_; intro w3 ha3 hb3))
              have hz1 := hb1.size
              have q3 : w3.heap.size = w1.heap.size + 1 := by rw [hb3.size, hs2]
              have HB3 := Lib.hid (hb1.trans ((hb2.mono hz1).trans (hb3.below hz1)))
              have A3 := Lib.hid ha3
              clear ha2 hb2 ha3 hb3 hs2 hb1
              go_at_call 10
              refine (C2.out _ ((HV.out.below HB3.out).more HB3.out.size)).mono ?_
              rintro e w4 ⟨rfl, hb4⟩
              have hz4 := hb4.size
              go_wp2_with (first | (refine wpList_allocA rfl rfl ?_; intro w5 hs5 ha5 hb5) | (refine wpList_storeA rfl _ _ rfl _ _ rfl rfl _ ha5 ?_; intro w6 ha6 hb6))
              have HB6 := Lib.hid (HB3.out.trans ((hb4.mono HB3.out.size).trans ((hb5.mono (by omega)).trans (hb6.below (by omega)))))
              have A1 := Lib.hid ((((A3.out.keep hb4 (by omega)).keep hb5 (by omega))).but hb6 (by omega))
              have A2 := Lib.hid ha6
              clear hb4 ha5 hb5 ha6 hb6 A3
              go_loopg [10] 0 (fun g' s10 wr => s10 = .int .i64 0 ∧ wr = w6)
              case atStart => exact ⟨rfl, rfl⟩
              case round =>
                obtain ⟨rfl, hwr⟩ := hrel
                have hwr := hwr.symm
                subst hwr
                go_wp2_with fail
                go_at_call 12
                refine (does_is _ ((HV.out.below HB6.out).more HB6.out.size)).mono ?_
                rintro e w7 ⟨rfl, hb7⟩
                go_wp2
                go_ret
                exact ⟨rfl, HB6.out.trans (hb7.mono HB6.out.size)⟩
            · have C1 := Lib.hid (fun (W : World) (hW : Vs W.heap.size W) => parse0 l _ e1 W (by rw [HM.out]; omega) hW)
              have C2 := Lib.hid (fun (W : World) (hW : Vs W.heap.size W) => parse0 (91 :: v) _ e2 W HZ.out hW)
              rw [retP_some] at C1 C2
              obtain ⟨n1, hn1⟩ : ∃ n1, (l.length : Int) - r.length = n1 := ⟨_, rfl⟩
              obtain ⟨n2, hn2⟩ : ∃ n2, ((91 :: v : List UInt8).length : Int) - r.length = n2 := ⟨_, rfl⟩
              rw [hn1] at C1
              rw [hn2] at C2
              have HNE := Lib.hid hne
              clear e1 e2 hne hn1 hn2
              go_enter Try.func6, Try.ntmps6
              go_wp2_with fail
              go_at_call 10
              refine (C1.out _ HV.out).mono ?_
              rintro e w1 ⟨rfl, hb1⟩
              go_wp2_with (first | (refine wpList_allocA rfl rfl ?_; intro w2 hs2 ha2 hb2) | (refine wpList_storeA rfl _ _ rfl _ _ rfl rfl _ ha2 ?_; intro w3 ha3 hb3))
              have hz1 := hb1.size
              have q3 : w3.heap.size = w1.heap.size + 1 := by rw [hb3.size, hs2]
              have HB3 := Lib.hid (hb1.trans ((hb2.mono hz1).trans (hb3.below hz1)))
              have A3 := Lib.hid ha3
              clear ha2 hb2 ha3 hb3 hs2 hb1
              go_at_call 10
              refine (C2.out _ ((HV.out.below HB3.out).more HB3.out.size)).mono ?_
              rintro e w4 ⟨rfl, hb4⟩
              have hz4 := hb4.size
              go_wp2_with (first | (refine wpList_allocA rfl rfl ?_; intro w5 hs5 ha5 hb5) | (refine wpList_storeA rfl _ _ rfl _ _ rfl rfl _ ha5 ?_; intro w6 ha6 hb6))
              have HB6 := Lib.hid (HB3.out.trans ((hb4.mono HB3.out.size).trans ((hb5.mono (by omega)).trans (hb6.below (by omega)))))
              have A1 := Lib.hid ((((A3.out.keep hb4 (by omega)).keep hb5 (by omega))).but hb6 (by omega))
              have A2 := Lib.hid ha6
              clear hb4 ha5 hb5 ha6 hb6 A3
              go_loopg [10] 256 (fun g' s10 wr => ∃ k q : Nat, s10 = .int .i64 k ∧ k ≤ 256 ∧ 256 - k ≤ g' ∧ wr = w6.drewN q)
              case atStart => exact ⟨0, 0, rfl, Nat.zero_le _, by omega, rfl⟩
              case round =>
                obtain ⟨k, q, rfl, hk, hg, rfl⟩ := hrel
                by_cases hlt : k < 256
                · have k1 := A1.out.cell hlt
                  have k2 := A2.out.cell hlt
                  have hx := HNE.out k
                  have k3 : (f k == g k) = false := by simpa using hx
                  clear hx
                  go_wp2
                  go_quiet (fail)
                  go_wp2
                  go_roundg (256 - (k + 1))
                  case measure => omega
                  case rel => exact ⟨k + 1, _, by go_num, by omega, by omega, by simp [World.drewN]; rfl⟩
                · obtain rfl : k = 256 := by omega
                  have hB7 : Below w.heap.size w (w6.drewN q) := below_drewN HB6.out q
                  go_wp2_with fail
                  go_at_call 12
                  refine (does_is _ ((HV.out.below hB7).more hB7.size)).mono ?_
                  rintro e w7 ⟨rfl, hb7⟩
                  go_wp2
                  go_ret
                  exact ⟨rfl, hB7.trans (hb7.mono hB7.size)⟩
          · have i2 := index_at l 2 2 rfl (by rw [HM.out]; omega)
            obtain ⟨c, hc⟩ : ∃ c, (l.getD 2 0).toNat = c := ⟨_, rfl⟩
            have c6 : c < 256 := by rw [← hc]; exact (l.getD 2 0).toNat_lt
            rw [hc] at i2
            have HC := Lib.hid hc
            clear hc
            by_cases h2 : c = 94
            · subst h2
              go_enter Try.func6, Try.ntmps6
              go_wp2_with (go_at_call 12; refine DD.out.mono ?_; rintro e w' ⟨rfl, hB⟩)
              go_ret
              exact ⟨rfl, hB⟩
            · have hn2 : (l.drop 2).head? ≠ some 94 := fun e => h2 (by
                rw [← HC.out]
                have : l.getD 2 0 = 94 := by
                  rw [List.head?_drop] at e
                  simp [List.getD, e]
                rw [this]
                rfl)
              have W2 := two_ways l (91 :: v) HH.out (.inr ⟨H94.out, hn2, by rw [HVV.out]⟩)
              clear hn2
              have HZ : Hid ((91 :: v : List UInt8).length ≤ 1000000000) := Lib.hid (by simp only [List.length_cons]; omega)
              rcases W2 with ⟨e1, e2⟩ | ⟨f, g, r, e1, e2, hne⟩
              · have C1 := Lib.hid (fun (W : World) (hW : Vs W.heap.size W) => parse0 l none e1 W (by rw [HM.out]; omega) hW)
                have C2 := Lib.hid (fun (W : World) (hW : Vs W.heap.size W) => parse0 (91 :: v) none e2 W HZ.out hW)
                rw [retP_none] at C1 C2
                clear e1 e2
                go_enter Try.func6, Try.ntmps6
                go_wp2_with fail
                go_at_call 10
                refine (C1.out _ HV.out).mono ?_
                rintro e w1 ⟨rfl, hb1⟩
                go_wp2_with (first | (refine wpList_allocA rfl rfl ?_; intro w2 hs2 ha2 hb2) | (refine wpList_storeA rfl _ _ rfl _ _ rfl rfl _ ha2 ?_; intro w3 ha3 hb3))
                have hz1 := hb1.size
                have q3 : w3.heap.size = w1.heap.size + 1 := by rw [hb3.size, hs2]
                have HB3 := Lib.hid (hb1.trans ((hb2.mono hz1).trans (hb3.below hz1)))
                have A3 := Lib.hid ha3
                clear ha2 hb2 ha3 hb3 hs2 hb1
                go_at_call 10
                refine (C2.out _ ((HV.out.below HB3.out).more HB3.out.size)).mono ?_
                rintro e w4 ⟨rfl, hb4⟩
                have hz4 := hb4.size
                go_wp2_with (first | (refine wpList_allocA rfl rfl ?_; intro w5 hs5 ha5 hb5) | (refine wpList_storeA rfl _ _ rfl _ _ rfl rfl _ ha5 ?_; intro w6 ha6 hb6))
                have HB6 := Lib.hid (HB3.out.trans ((hb4.mono HB3.out.size).trans ((hb5.mono (by omega)).trans (hb6.below (by omega)))))
                have A1 := Lib.hid ((((A3.out.keep hb4 (by omega)).keep hb5 (by omega))).but hb6 (by omega))
                have A2 := Lib.hid ha6
                clear hb4 ha5 hb5 ha6 hb6 A3
                go_loopg [10] 0 (fun g' s10 wr => s10 = .int .i64 0 ∧ wr = w6)
                case atStart => exact ⟨rfl, rfl⟩
                case round =>
                  obtain ⟨rfl, hwr⟩ := hrel
                  have hwr := hwr.symm
                  subst hwr
                  go_wp2_with fail
                  go_at_call 12
                  refine (does_is _ ((HV.out.below HB6.out).more HB6.out.size)).mono ?_
                  rintro e w7 ⟨rfl, hb7⟩
                  go_wp2
                  go_ret
                  exact ⟨rfl, HB6.out.trans (hb7.mono HB6.out.size)⟩
              · have C1 := Lib.hid (fun (W : World) (hW : Vs W.heap.size W) => parse0 l _ e1 W (by rw [HM.out]; omega) hW)
                have C2 := Lib.hid (fun (W : World) (hW : Vs W.heap.size W) => parse0 (91 :: v) _ e2 W HZ.out hW)
                rw [retP_some] at C1 C2
                obtain ⟨n1, hn1⟩ : ∃ n1, (l.length : Int) - r.length = n1 := ⟨_, rfl⟩
                obtain ⟨n2, hn2⟩ : ∃ n2, ((91 :: v : List UInt8).length : Int) - r.length = n2 := ⟨_, rfl⟩
                rw [hn1] at C1
                rw [hn2] at C2
                have HNE := Lib.hid hne
                clear e1 e2 hne hn1 hn2
                go_enter Try.func6, Try.ntmps6
                go_wp2_with fail
                go_at_call 10
                refine (C1.out _ HV.out).mono ?_
                rintro e w1 ⟨rfl, hb1⟩
                go_wp2_with (first | (refine wpList_allocA rfl rfl ?_; intro w2 hs2 ha2 hb2) | (refine wpList_storeA rfl _ _ rfl _ _ rfl rfl _ ha2 ?_; intro w3 ha3 hb3))
                have hz1 := hb1.size
                have q3 : w3.heap.size = w1.heap.size + 1 := by rw [hb3.size, hs2]
                have HB3 := Lib.hid (hb1.trans ((hb2.mono hz1).trans (hb3.below hz1)))
                have A3 := Lib.hid ha3
                clear ha2 hb2 ha3 hb3 hs2 hb1
                go_at_call 10
                refine (C2.out _ ((HV.out.below HB3.out).more HB3.out.size)).mono ?_
                rintro e w4 ⟨rfl, hb4⟩
                have hz4 := hb4.size
                go_wp2_with (first | (refine wpList_allocA rfl rfl ?_; intro w5 hs5 ha5 hb5) | (refine wpList_storeA rfl _ _ rfl _ _ rfl rfl _ ha5 ?_; intro w6 ha6 hb6))
                have HB6 := Lib.hid (HB3.out.trans ((hb4.mono HB3.out.size).trans ((hb5.mono (by omega)).trans (hb6.below (by omega)))))
                have A1 := Lib.hid ((((A3.out.keep hb4 (by omega)).keep hb5 (by omega))).but hb6 (by omega))
                have A2 := Lib.hid ha6
                clear hb4 ha5 hb5 ha6 hb6 A3
                go_loopg [10] 256 (fun g' s10 wr => ∃ k q : Nat, s10 = .int .i64 k ∧ k ≤ 256 ∧ 256 - k ≤ g' ∧ wr = w6.drewN q)
                case atStart => exact ⟨0, 0, rfl, Nat.zero_le _, by omega, rfl⟩
                case round =>
                  obtain ⟨k, q, rfl, hk, hg, rfl⟩ := hrel
                  by_cases hlt : k < 256
                  · have k1 := A1.out.cell hlt
                    have k2 := A2.out.cell hlt
                    have hx := HNE.out k
                    have k3 : (f k == g k) = false := by simpa using hx
                    clear hx
                    go_wp2
                    go_quiet (fail)
                    go_wp2
                    go_roundg (256 - (k + 1))
                    case measure => omega
                    case rel => exact ⟨k + 1, _, by go_num, by omega, by omega, by simp [World.drewN]; rfl⟩
                  · obtain rfl : k = 256 := by omega
                    have hB7 : Below w.heap.size w (w6.drewN q) := below_drewN HB6.out q
                    go_wp2_with fail
                    go_at_call 12
                    refine (does_is _ ((HV.out.below hB7).more hB7.size)).mono ?_
                    rintro e w7 ⟨rfl, hb7⟩
                    go_wp2
                    go_ret
                    exact ⟨rfl, hB7.trans (hb7.mono hB7.size)⟩
        · have hn1 : (l.drop 1).head? ≠ some 94 := fun e => h94 (by
            rw [← HBB.out]
            rw [HD1.out] at e
            injection e with e
            rw [e]
            rfl)
          have W2 := two_ways l (91 :: 94 :: u) HH.out (.inl ⟨hn1, by rw [HU.out]⟩)
          clear hn1
          have HZ : Hid ((91 :: 94 :: u : List UInt8).length ≤ 1000000000) := Lib.hid (by simp only [List.length_cons]; omega)
          rcases W2 with ⟨e1, e2⟩ | ⟨f, g, r, e1, e2, hne⟩
          · have C1 := Lib.hid (fun (W : World) (hW : Vs W.heap.size W) => parse0 l none e1 W (by rw [HM.out]; omega) hW)
            have C2 := Lib.hid (fun (W : World) (hW : Vs W.heap.size W) => parse0 (91 :: 94 :: u) none e2 W HZ.out hW)
            rw [retP_none] at C1 C2
            clear e1 e2
            go_enter Try.func6, Try.ntmps6
            go_wp2_with fail
            go_at_call 10
            refine (C1.out _ HV.out).mono ?_
            rintro e w1 ⟨rfl, hb1⟩
            go_wp2_with (first | (refine wpList_allocA rfl rfl ?_; intro w2 hs2 ha2 hb2) | (refine wpList_storeA rfl _ _ rfl _ _ rfl rfl _ ha2 ?_; intro w3 ha3 hb3))
            have hz1 := hb1.size
            have q3 : w3.heap.size = w1.heap.size + 1 := by rw [hb3.size, hs2]
            have HB3 := Lib.hid (hb1.trans ((hb2.mono hz1).trans (hb3.below hz1)))
            have A3 := Lib.hid ha3
            clear ha2 hb2 ha3 hb3 hs2 hb1
            go_at_call 10
            refine (C2.out _ ((HV.out.below HB3.out).more HB3.out.size)).mono ?_
            rintro e w4 ⟨rfl, hb4⟩
            have hz4 := hb4.size
            go_wp2_with (first | (refine wpList_allocA rfl rfl ?_; intro w5 hs5 ha5 hb5) | (refine wpList_storeA rfl _ _ rfl _ _ rfl rfl _ ha5 ?_; intro w6 ha6 hb6))
            have HB6 := Lib.hid (HB3.out.trans ((hb4.mono HB3.out.size).trans ((hb5.mono (by omega)).trans (hb6.below (by omega)))))
            have A1 := Lib.hid ((((A3.out.keep hb4 (by omega)).keep hb5 (by omega))).but hb6 (by omega))
            have A2 := Lib.hid ha6
            clear hb4 ha5 hb5 ha6 hb6 A3
            go_loopg [10] 0 (fun g' s10 wr => s10 = .int .i64 0 ∧ wr = w6)
            case atStart => exact ⟨rfl, rfl⟩
            case round =>
              obtain ⟨rfl, hwr⟩ := hrel
              have hwr := hwr.symm
              subst hwr
              go_wp2_with fail
              go_at_call 12
              refine (does_is _ ((HV.out.below HB6.out).more HB6.out.size)).mono ?_
              rintro e w7 ⟨rfl, hb7⟩
              go_wp2
              go_ret
              exact ⟨rfl, HB6.out.trans (hb7.mono HB6.out.size)⟩
          · have C1 := Lib.hid (fun (W : World) (hW : Vs W.heap.size W) => parse0 l _ e1 W (by rw [HM.out]; omega) hW)
            have C2 := Lib.hid (fun (W : World) (hW : Vs W.heap.size W) => parse0 (91 :: 94 :: u) _ e2 W HZ.out hW)
            rw [retP_some] at C1 C2
            obtain ⟨n1, hn1⟩ : ∃ n1, (l.length : Int) - r.length = n1 := ⟨_, rfl⟩
            obtain ⟨n2, hn2⟩ : ∃ n2, ((91 :: 94 :: u : List UInt8).length : Int) - r.length = n2 := ⟨_, rfl⟩
            rw [hn1] at C1
            rw [hn2] at C2
            have HNE := Lib.hid hne
            clear e1 e2 hne hn1 hn2
            go_enter Try.func6, Try.ntmps6
            go_wp2_with fail
            go_at_call 10
            refine (C1.out _ HV.out).mono ?_
            rintro e w1 ⟨rfl, hb1⟩
            go_wp2_with (first | (refine wpList_allocA rfl rfl ?_; intro w2 hs2 ha2 hb2) | (refine wpList_storeA rfl _ _ rfl _ _ rfl rfl _ ha2 ?_; intro w3 ha3 hb3))
            have hz1 := hb1.size
            have q3 : w3.heap.size = w1.heap.size + 1 := by rw [hb3.size, hs2]
            have HB3 := Lib.hid (hb1.trans ((hb2.mono hz1).trans (hb3.below hz1)))
            have A3 := Lib.hid ha3
            clear ha2 hb2 ha3 hb3 hs2 hb1
            go_at_call 10
            refine (C2.out _ ((HV.out.below HB3.out).more HB3.out.size)).mono ?_
            rintro e w4 ⟨rfl, hb4⟩
            have hz4 := hb4.size
            go_wp2_with (first | (refine wpList_allocA rfl rfl ?_; intro w5 hs5 ha5 hb5) | (refine wpList_storeA rfl _ _ rfl _ _ rfl rfl _ ha5 ?_; intro w6 ha6 hb6))
            have HB6 := Lib.hid (HB3.out.trans ((hb4.mono HB3.out.size).trans ((hb5.mono (by omega)).trans (hb6.below (by omega)))))
            have A1 := Lib.hid ((((A3.out.keep hb4 (by omega)).keep hb5 (by omega))).but hb6 (by omega))
            have A2 := Lib.hid ha6
            clear hb4 ha5 hb5 ha6 hb6 A3
            go_loopg [10] 256 (fun g' s10 wr => ∃ k q : Nat, s10 = .int .i64 k ∧ k ≤ 256 ∧ 256 - k ≤ g' ∧ wr = w6.drewN q)
            case atStart => exact ⟨0, 0, rfl, Nat.zero_le _, by omega, rfl⟩
            case round =>
              obtain ⟨k, q, rfl, hk, hg, rfl⟩ := hrel
              by_cases hlt : k < 256
              · have k1 := A1.out.cell hlt
                have k2 := A2.out.cell hlt
                have hx := HNE.out k
                have k3 : (f k == g k) = false := by simpa using hx
                clear hx
                go_wp2
                go_quiet (fail)
                go_wp2
                go_roundg (256 - (k + 1))
                case measure => omega
                case rel => exact ⟨k + 1, _, by go_num, by omega, by omega, by simp [World.drewN]; rfl⟩
              · obtain rfl : k = 256 := by omega
                have hB7 : Below w.heap.size w (w6.drewN q) := below_drewN HB6.out q
                go_wp2_with fail
                go_at_call 12
                refine (does_is _ ((HV.out.below hB7).more hB7.size)).mono ?_
                rintro e w7 ⟨rfl, hb7⟩
                go_wp2
                go_ret
                exact ⟨rfl, hB7.trans (hb7.mono hB7.size)⟩
      · have t91 : ((a : Int) != 91) = true := by simpa using (by omega : ¬ (a : Int) = 91)
        go_enter Try.func6, Try.ntmps6
        go_wp2_with (go_at_call 12; refine DD.out.mono ?_; rintro e w' ⟨rfl, hB⟩)
        go_ret
        exact ⟨rfl, hB⟩
theorem law6L (s : ByteArray) (w : World) (hl : s.size ≤ maxLen) (hV : Vs w.heap.size w) :
    Calls Try.prog 6 #[.string s] w fun e w' => e = .returned (.bool true) ∧ Below w.heap.size w w' := by
  have := law6 s.data.toList w (by rw [Array.length_toList]; exact hl) hV
  rwa [B_list] at this
end Go.Proofs.Ytmemdmjfccepgaa.cls
