/- SavesBack, walked. -/
import Derived.Test.YtlbhegicapggeaaSavRun
namespace Go.Proofs.Ytlbhegicapggeaa.sav
open Go.RowKit Go.Lib Go.Maps Go.WideMaps fil
set_option linter.unusedVariables false
set_option linter.unusedSimpArgs false
set_option linter.unnecessarySimpa false
set_option linter.unusedSectionVars false

section
variable {n fb : Nat} {w0 w w' : World} {s s' : St} {F : Nat → Prop}

set_option maxHeartbeats 4000000 in
set_option maxRecDepth 100000 in
theorem lawBack (n0 n1 t0 t1 : ByteArray) (A : Option Addr) (c m : Nat) (ks : List Int) (w : World) (hn0 : n0.size ≤ maxLen) (hn1 : n1.size ≤ maxLen) (ht0 : t0.size ≤ maxLen) (ht1 : t1.size ≤ maxLen) (hm : m = ks.length) (hmc : m ≤ c) (hc : c ≤ maxLen) (hk : LRd w 0 w.heap.size A (iv ks))
    (hdoes : Hid (∀ W, Calls Try.prog 12 #[] W fun e w' => e = .returned (.bool true) ∧ Below W.heap.size W w')) :
    Calls Try.prog 5 #[.agg #[.string n0, .string n1], .agg #[.string t0, .string t1], .slice A m c] w fun e w' => e = .returned (.bool true) ∧ Below w.heap.size w w' := by
  have a9 : n0.size ≤ 9223372036854775807 := by unfold maxLen at hn0; omega
  have b9 : n1.size ≤ 9223372036854775807 := by unfold maxLen at hn1; omega
  have c9 : t0.size ≤ 9223372036854775807 := by unfold maxLen at ht0; omega
  have d9 : t1.size ≤ 9223372036854775807 := by unfold maxLen at ht1; omega
  have e9 : m ≤ 9223372036854775807 := by unfold maxLen at hc; omega
  by_cases z1 : 3000 < t0.size
  · clear hdoes hk
    go_enter Try.func5, Try.ntmps5
    go_wp2
    go_ret
    exact ⟨rfl, ((Below.refl _ w).alloc (Nat.le_refl _) _).alloc (by simp) _⟩
  by_cases z2 : 3000 < t1.size
  · clear hdoes hk
    go_enter Try.func5, Try.ntmps5
    go_wp2
    go_ret
    exact ⟨rfl, ((Below.refl _ w).alloc (Nat.le_refl _) _).alloc (by simp) _⟩
  by_cases z3 : 100 < n0.size
  · clear hdoes hk
    go_enter Try.func5, Try.ntmps5
    go_wp2
    go_ret
    exact ⟨rfl, ((Below.refl _ w).alloc (Nat.le_refl _) _).alloc (by simp) _⟩
  by_cases z4 : 100 < n1.size
  · clear hdoes hk
    go_enter Try.func5, Try.ntmps5
    go_wp2
    go_ret
    exact ⟨rfl, ((Below.refl _ w).alloc (Nat.le_refl _) _).alloc (by simp) _⟩
  by_cases z5 : 60 < m
  · clear hdoes hk
    go_enter Try.func5, Try.ntmps5
    go_wp2
    go_ret
    exact ⟨rfl, ((Below.refl _ w).alloc (Nat.le_refl _) _).alloc (by simp) _⟩
  subst hm
  have EA : Hid (t0.data.toList.length ≤ 3000) := Lib.hid (by have e : t0.data.toList.length = t0.size := (by simp); omega)
  have EB : Hid (t1.data.toList.length ≤ 3000) := Lib.hid (by have e : t1.data.toList.length = t1.size := (by simp); omega)
  have HK := Lib.hid hk
  have M0 := Lib.hid hn0
  have M1 := Lib.hid hn1
  have M2 := Lib.hid ht0
  have M3 := Lib.hid ht1
  clear hk hn0 hn1 ht0 ht1
  go_enter Try.func5, Try.ntmps5
  have HB0 : Below w.heap.size w (((w.alloc (.cells #[.string n0, .string n1] 47)).alloc (.cells #[.string t0, .string t1] 47))) := ((Below.refl _ w).alloc (Nat.le_refl _) _).alloc (by simp) _
  have A0 : At (((w.alloc (.cells #[.string n0, .string n1] 47)).alloc (.cells #[.string t0, .string t1] 47))) w.heap.size 47 #[.string n0, .string n1] := (At.new w _ _).alloc (.cells #[.string t0, .string t1] 47)
  have A1 : At (((w.alloc (.cells #[.string n0, .string n1] 47)).alloc (.cells #[.string t0, .string t1] 47))) (w.heap.size + 1) 47 #[.string t0, .string t1] := by
    have := At.new (w.alloc (.cells #[.string n0, .string n1] 47)) 47 #[.string t0, .string t1]
    rw [World.size_alloc] at this
    exact this
  have HB := Lib.hid HB0
  have H0 := Lib.hid A0
  have H1 := Lib.hid A1
  clear HB0 A0 A1
  go_wp2_with fail
  go_at_call 7
  generalize ((w.alloc (.cells #[.string n0, .string n1] 47)).alloc (.cells #[.string t0, .string t1] 47)) = wq at *
  have C0 := Lib.hid (new_run 20000 wq (by omega) (by omega))
  refine C0.out.mono ?_
  rintro e w1 ⟨rfl, hR⟩
  clear C0
  have k0 : w1.cell? ⟨w.heap.size, 0, none⟩ = some (.string n0) := (H0.out.same (hR.below.block _ H0.out.lt)).cell 0
  have k1 : w1.cell? ⟨w.heap.size + 1, 0, none⟩ = some (.string t0) := (H1.out.same (hR.below.block _ H1.out.lt)).cell 0
  have C := write_run n0 t0 M0.out M2.out hR
  rw [back_w0 _ _ EA.out] at C
  have C := Lib.hid C
  clear hR
  go_wp2_with fail
  go_at_call 10
  refine C.out.mono ?_
  rintro e w2 ⟨rfl, hR⟩
  clear C
  have k0 : w2.cell? ⟨w.heap.size, 1, none⟩ = some (.string n1) := (H0.out.same (hR.below.block _ H0.out.lt)).cell 1
  have k1 : w2.cell? ⟨w.heap.size + 1, 1, none⟩ = some (.string t1) := (H1.out.same (hR.below.block _ H1.out.lt)).cell 1
  have C := write_run n1 t1 M1.out M3.out hR
  rw [back_w1 _ _ _ _ EA.out EB.out] at C
  have C := Lib.hid C
  clear hR
  go_wp2_with fail
  go_at_call 10
  refine C.out.mono ?_
  rintro e w3 ⟨rfl, hR⟩
  clear C
  have hzq := HB.out.size
  have HE : Hid (∀ W s, Run wq.heap.size wq (wq.heap.size + 1) s W → Below w.heap.size w W) := Lib.hid fun W s h => HB.out.trans (h.below.mono hzq)
  have C := crash_run A c ks e9 ((HK.out.belowN (HE.out _ _ hR)).more (Nat.le_refl _) hzq) hR
  rw [back_crash] at C
  have C := Lib.hid C
  clear hR hzq
  go_wp2_with fail
  go_at_call 8
  refine C.out.mono ?_
  rintro e w4 ⟨rfl, hR⟩
  clear C
  have C := start_run (by rw [back_starts]; omega) hR
  rw [start_over] at C
  have C := Lib.hid C
  clear hR
  go_wp2_with fail
  go_at_call 16
  refine C.out.mono ?_
  rintro e w5 ⟨rfl, hR⟩
  clear C
  have B0 := H0.out.same (hR.below.block _ H0.out.lt)
  have B1 := H1.out.same (hR.below.block _ H1.out.lt)
  have k0 : w5.cell? ⟨w.heap.size, 0, none⟩ = some (.string n0) := B0.cell 0
  have k1 : w5.cell? ⟨w.heap.size, 1, none⟩ = some (.string n1) := B0.cell 1
  have k2 : w5.cell? ⟨w.heap.size + 1, 0, none⟩ = some (.string t0) := B1.cell 0
  have k3 : w5.cell? ⟨w.heap.size + 1, 1, none⟩ = some (.string t1) := B1.cell 1
  have f2 : w5.frozen? ⟨w.heap.size + 1, 0, none⟩ = false := B1.frozen 0
  have HZ := Lib.hid (HE.out _ _ hR)
  clear B0 B1
  have split : ∀ x : List UInt8, (isTx x = true ∧ code x = 0) ∨ (isTx x = false ∧ code x = 2) := fun x => by
    unfold code
    cases isTx x
    · exact .inr ⟨rfl, rfl⟩
    · exact .inl ⟨rfl, rfl⟩
  by_cases heq : n0 = n1
  · subst heq
    have C := load_run n0 M0.out hR
    rw [back_l1] at C
    clear hR
    rcases split n0.data.toList with ⟨i0, c0⟩ | ⟨i0, c0⟩
    · rw [c0, if_pos i0, B_list] at C
      rw [c0]
      have C := Lib.hid C
      clear split i0 c0
      go_wp2_with fail
      go_at_call 9
      refine C.out.mono ?_
      rintro e w' ⟨rfl, rfl⟩
      go_wp2_with fail
      go_at_call 9
      refine C.out.mono ?_
      rintro e w' ⟨rfl, rfl⟩
      go_wp2_with fail
      go_at_call 12
      refine (hdoes.out _).mono ?_
      rintro e w9 ⟨rfl, hB9⟩
      have HX := (HZ.out.setCell (p := ⟨w.heap.size + 1, 0, none⟩) (by simp) (.string t1))
      have HY := HX.trans (hB9.mono HX.size)
      clear hB9 HX HZ HE
      go_wp2
      go_ret
      exact ⟨rfl, HY⟩
    · rw [c0, if_neg (by rw [i0]; decide)] at C
      rw [c0]
      have C := Lib.hid C
      clear split i0 c0
      go_wp2_with fail
      go_at_call 9
      refine C.out.mono ?_
      rintro e w' ⟨rfl, rfl⟩
      go_wp2_with fail
      go_at_call 9
      refine C.out.mono ?_
      rintro e w' ⟨rfl, rfl⟩
      go_wp2_with fail
      go_at_call 12
      refine (hdoes.out _).mono ?_
      rintro e w9 ⟨rfl, hB9⟩
      have HX := (HZ.out.setCell (p := ⟨w.heap.size + 1, 0, none⟩) (by simp) (.string t1))
      have HY := HX.trans (hB9.mono HX.size)
      clear hB9 HX HZ HE
      go_wp2
      go_ret
      exact ⟨rfl, HY⟩
  · have hne : n0.data.toList ≠ n1.data.toList := fun e => heq (by have := congrArg B e; rwa [B_list, B_list] at this)
    have C := load_run n0 M0.out hR
    have C2 := load_run n1 M1.out hR
    rw [back_l0 _ _ _ _ hne] at C
    rw [back_l1] at C2
    have hq1 : (n0.toList == n1.toList) = false := by rw [Lib.toList_data, Lib.toList_data]; simpa using hne
    have hq3 : ¬ n0.toList = n1.toList := by simpa using hq1
    clear hR hne
    rcases split n0.data.toList with ⟨i0, c0⟩ | ⟨i0, c0⟩ <;> rcases split n1.data.toList with ⟨i1, c1⟩ | ⟨i1, c1⟩
    all_goals
      rw [c0] at C
      rw [c1] at C2
      rw [c0, c1]
      first
        | rw [if_pos i0, B_list] at C
        | rw [if_neg (by rw [i0]; decide)] at C
      first
        | rw [if_pos i1, B_list] at C2
        | rw [if_neg (by rw [i1]; decide)] at C2
      have C := Lib.hid C
      have C2 := Lib.hid C2
      clear split i0 c0 i1 c1
      go_wp2_with fail
      go_at_call 9
      refine C.out.mono ?_
      rintro e w' ⟨rfl, rfl⟩
      go_wp2_with fail
      go_at_call 9
      refine C2.out.mono ?_
      rintro e w' ⟨rfl, rfl⟩
      go_wp2_with fail
      go_at_call 12
      refine (hdoes.out _).mono ?_
      rintro e w9 ⟨rfl, hB9⟩
      have HY := HZ.out.trans (hB9.mono HZ.out.size)
      clear hB9 HZ HE
      go_wp2
      go_ret
      exact ⟨rfl, HY⟩
end
end Go.Proofs.Ytlbhegicapggeaa.sav
