/- SumsDiffer, walked. -/
import Derived.Test.YtdcdiniplomnkaaDoorOther
import Derived.Deep.RegionWith
import Derived.Deep.DeepCutAuto
import Derived.Deep.CutRange
import Derived.IntWalk
import Derived.Lib.Strings
namespace Go.Proofs.YtdcdiniplomnkaaDoor
open Go.RowKit Go.Lib

theorem empty_list (s : ByteArray) (h : s.size = 0) : s.toList = [] := by
  rw [Lib.toList_data]; exact List.eq_nil_of_length_eq_zero (by rw [size_list]; exact h)
theorem full_list (s : ByteArray) (h : ¬s.size = 0) : s.toList.isEmpty = false := by
  rw [Lib.toList_data, List.isEmpty_eq_false_iff]
  intro e
  have := congrArg List.length e
  rw [size_list] at this
  exact h this
theorem conv_one (w : World) (b : UInt8) : (convert 33 9 (.slice (some ⟨w.heap.size, 0, none⟩) 1 1)).run Tryd.prog (w.alloc (.cells #[.int .u8 (b.toNat : Int)] 5)).drew = .ok (.string ⟨#[b]⟩) (w.alloc (.cells #[.int .u8 (b.toNat : Int)] 5)).drew :=
  run_convert_bytes_back (P := Tryd.prog) _ 33 9 5 ⟨w.heap.size, 0, none⟩ 1 [b] Tryd.underlying33 Tryd.underlying5 Tryd.underlying9 (fun j hj => by
    obtain rfl : j = 0 := by simpa using hj
    have h : (w.alloc (.cells #[.int .u8 (b.toNat : Int)] 5)).cell? ⟨w.heap.size, 0, none⟩ = some (.int .u8 (b.toNat : Int)) := by rw [World.cell?_alloc_new]; rfl
    rw [Lib.add_plain]
    exact h)
set_option maxHeartbeats 4000000 in
set_option maxRecDepth 100000 in
theorem law6 (s : ByteArray) (a : Nat) (b : UInt8) (w : World) (hs : s.size ≤ maxLen) (ha : a < 65536) (hV : Vars w.heap.size w) :
    Calls Tryd.prog 6 #[.string s, .int .u16 a, .int .u8 (b.toNat : Int)] w fun e w' => e = .returned (.bool true) ∧ Below w.heap.size w w' := by
  have hs' : s.size ≤ 9223372036854775807 := by unfold maxLen at hs; omega
  by_cases hbig : 40000 < s.size
  · go_enter Tryd.func6, Tryd.ntmps6
    go_wp2_with fail
    go_at_call 10
    refine (told10 _ hV).mono ?_
    rintro e w' ⟨rfl, hB⟩
    go_wp2
    go_ret
    exact ⟨rfl, hB⟩
  by_cases h0 : s.size = 0
  · have he : s.toList.isEmpty = true := by rw [empty_list s h0]; rfl
    have he2 : s.toList = [] := empty_list s h0
    go_enter Tryd.func6, Tryd.ntmps6
    go_wp2_with fail
    go_at_call 10
    refine (told10 _ hV).mono ?_
    rintro e w' ⟨rfl, hB⟩
    go_wp2
    go_ret
    exact ⟨rfl, hB⟩
  · have he : s.toList.isEmpty = false := full_list s h0
    have hp : 0 < s.size := by omega
    have q1 : a % s.size < s.size := Nat.mod_lt _ hp
    have q2 := (s[a % s.size]).toNat_lt
    have q3 := b.toNat_lt
    go_enter Tryd.func6, Tryd.ntmps6
    have q2' := q2
    go_upto_region 5 with fail
    generalize hc : (s[a % s.size]).toNat = c at q2' ⊢
    have em : (a : Int) % (s.size : Int) = ((a % s.size : Nat) : Int) := by omega
    rw [em]
    have hd1 : -255 ≤ (b.toNat : Int) - (c : Int) := by omega
    have hd2 : (b.toNat : Int) - (c : Int) ≤ 255 := by omega
    have hN := other_sum s (a % s.size) b q1
    rw [hc] at hN
    clear hc q2
    generalize a % s.size = p at q1 hN ⊢
    generalize (b.toNat : Int) - (c : Int) = d at hd1 hd2 hN ⊢
    clear em q2'
    have hN1 := sumN_lt s.data.toList
    have hN2 := sumN_lt (other s p b).data.toList
    have c1 := fun w => sum11 s w hs
    have c2 := fun w => sum11 (other s p b) w (by rw [other_size s p b q1]; exact hs)
    generalize sumN s.data.toList = N1 at hN hN1 c1
    generalize sumN (other s p b).data.toList = N2 at hN hN2 c2
    have HN := Lib.hid hN
    clear hN
    go_cut [9, 10] (fun s9 s10 wx => s9 = .int .u32 N1 ∧ s10 = .int .u32 N2 ∧ Below w.heap.size w wx)
    case first =>
      have r1 : IntKind.i64.wrap ((p : Int) + 1) = (p : Int) + 1 := IntWalk.i64_in _ (by omega)
      have r2 : 0 ≤ (p : Int) + 1 := by omega
      have r3 : ((p : Int) + 1).toNat = p + 1 := by omega
      have r4 : (p : Int) + 1 ≤ (s.size : Int) := by omega
      have r5 : p ≤ s.size := by omega
      have r6 : p + 1 ≤ 9223372036854775807 := by omega
      have r7 : p + 1 + (s.size - (p + 1)) ≤ 9223372036854775807 := by omega
      have hcv := conv_one w b
      go_region_with (first | (go_at_call 11; (with_reducible refine (c1 _).mono ?_); rintro e w' ⟨rfl, rfl⟩) | (go_at_call 11; (with_reducible refine (c2 _).mono ?_); rintro e w' ⟨rfl, rfl⟩))
      all_goals (go_wp2_with fail; go_meet; exact ⟨rfl, rfl, below_drew ((Below.refl _ _).alloc (Nat.le_refl _) _)⟩)
    case rest =>
      obtain ⟨rfl, rfl, HB⟩ := hcut
      have VB := hV.next HB
      have hz := HB.size
      clear hV c1 c2
      have k0 : 0 ≤ (s.size : Int) - (p : Int) := by omega
      have k1 : (s.size : Int) - (p : Int) ≤ 40000 := by omega
      have e1 : -10200000 ≤ d * ((s.size : Int) - (p : Int)) := by
        have := Int.mul_le_mul_of_nonneg_right hd1 k0
        omega
      have e2 : d * ((s.size : Int) - (p : Int)) ≤ 10200000 := by
        have := Int.mul_le_mul_of_nonneg_right hd2 k0
        omega
      have e3 := tmod_bounds (d * ((s.size : Int) - (p : Int)))
      obtain ⟨e3, e4⟩ := e3
      go_wp2_with fail
      · go_at_call 10
        refine (told10 _ VB).mono ?_
        rintro e w' ⟨rfl, hB⟩
        go_wp2
        go_ret
        exact ⟨rfl, HB.trans (hB.mono hz)⟩
      · exfalso
        have h1 : (N2 : Int) = ((N1 : Int) / 65536 + (d * ((s.size : Int) - (p : Int))).tmod 65535) % 65535 * 65536 + ((N1 : Int) % 65536 + d) % 65535 := by assumption
        have h2 : ¬(((N1 : Int) / 65536 + (d * ((s.size : Int) - (p : Int))).tmod 65535) % 65535 * 65536 + ((N1 : Int) % 65536 + d) % 65535 == (N1 : Int)) = (d == 0) := by assumption
        rw [← h1] at h2
        apply h2
        have h3 := HN.out.2
        rw [Bool.eq_iff_iff, beq_iff_eq, beq_iff_eq, ← h3]
        omega
      · exfalso
        have h2 : ¬(N2 : Int) = ((N1 : Int) / 65536 + (d * ((s.size : Int) - (p : Int))).tmod 65535) % 65535 * 65536 + ((N1 : Int) % 65536 + d) % 65535 := by assumption
        have h3 := HN.out.1
        omega
end Go.Proofs.YtdcdiniplomnkaaDoor
