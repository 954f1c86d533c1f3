/- SumsNoughts, walked. -/
import Derived.Test.YtdcdiniplomnkaaDoorHex
import Derived.OwnWalk
import Derived.Laws.OwnMore
namespace Go.Proofs.YtdcdiniplomnkaaDoor
open Go.RowKit Go.Lib

theorem info5 : (Tryd.prog.info? 5).map (fun i => (i.zero, i.size, i.bytes)) = some (some (.int .u8 0), 1, 1) := by kernel_rfl
theorem conv_noughts {w w1 : World} {b m : Nat} {z : ByteArray} (hz : Hid (z = B (List.replicate m 0))) (h : w1.ownsRow b 5 1 (.slice (some ⟨w.heap.size, 0, none⟩) m m) m (madeCells (Value.int .u8 0).cells (m * 1)).toList) :
    (convert 33 9 (.slice (some ⟨w.heap.size, 0, none⟩) m m)).run Tryd.prog w1 = .ok (.string z) w1 := by
  rw [hz.out]
  have hc := run_convert_bytes_back (P := Tryd.prog) w1 33 9 5 ⟨w.heap.size, 0, none⟩ m (List.replicate m 0) Tryd.underlying33 Tryd.underlying5 Tryd.underlying9 (fun j hj => by
    have hj' : j < m := by simpa using hj
    have := h.cells (g := w.heap.size) rfl j (.int .u8 0) (by rw [Nat.mul_one, show (Value.int .u8 0).cells = #[Value.int .u8 0] from rfl, toList_madeCells_one, List.getElem?_replicate, if_pos hj'])
    simpa [Lib.add_plain] using this)
  rw [List.length_replicate] at hc
  exact hc

theorem app_list (a b : ByteArray) : (a ++ b).data.toList = a.data.toList ++ b.data.toList := by simp
theorem app_size (a b : ByteArray) : (a ++ b).size = a.size + b.size := by simp

set_option maxHeartbeats 2000000 in
theorem law7 (s : ByteArray) (m : Nat) (w : World) (hs : s.size ≤ maxLen) (hm : m ≤ 255) (hV : Vars w.heap.size w) :
    Calls Tryd.prog 7 #[.string s, .int .u8 m] w fun e w' => e = .returned (.bool true) ∧ Below w.heap.size w w' := by
  have hs' : s.size ≤ 9223372036854775807 := by unfold maxLen at hs; omega
  by_cases h : s.size ≤ 20000
  · obtain ⟨i0, hi, hz0, hz1, hz2⟩ := info_parts info5
    have hml : m ≤ maxLen := by unfold maxLen; omega
    obtain ⟨z, hz⟩ : ∃ z, z = B (List.replicate m 0) := ⟨_, rfl⟩
    have zl : z.data.toList = List.replicate m 0 := by rw [hz, list_B]
    have zs : z.size ≤ 255 := by rw [hz, B_size, List.length_replicate]; exact hm
    have HZ := Lib.hid hz
    have c1 := fun w => sum11 s w hs
    have c2 := fun w => sum11 (z ++ s) w (by rw [app_size]; unfold maxLen; omega)
    have c3 := fun w => sum11 (s ++ z) w (by rw [app_size]; unfold maxLen; omega)
    have c4 := fun w => join15 (sumN s.data.toList) 0 m w (sumN_lt _) (by decide) (by omega) (by omega)
    have c5 := fun w => sum11 z w (by unfold maxLen; omega)
    rw [app_list, zl, sumN_front] at c2
    rw [app_list, zl, sumN_back] at c3
    rw [zl, sumN_zeros] at c5
    clear hz zl
    go_enter Tryd.func7, Tryd.ntmps7
    go_wp2_with (at_make; refine wpList_make_full _ rfl _ _ 33 rfl w.heap.size 5 i0 (.int .u8 0) 1 Tryd.underlying33 hi hz0 hz1 .i64 .i64 _ _ m rfl rfl rfl rfl (by rw [hz2]; omega) hml (Nat.le_refl _) ?_; intro w1 hown1 hgrow1; have hcv := conv_noughts HZ hown1)
    have hB := (Below.refl w.heap.size w).grown hgrow1 (Nat.le_refl _) (fun k e => by cases e)
    have V1 := hV.next hB
    have hz := hB.size
    clear hown1 hgrow1 hcv hV
    go_at_call 11
    refine (c1 _).mono ?_
    rintro e w' ⟨rfl, rfl⟩
    go_wp2_with fail
    go_at_call 11
    refine (c2 _).mono ?_
    rintro e w' ⟨rfl, rfl⟩
    go_wp2_with fail
    go_at_call 11
    refine (c3 _).mono ?_
    rintro e w' ⟨rfl, rfl⟩
    go_wp2_with fail
    go_at_call 15
    refine (c4 _).mono ?_
    rintro e w' ⟨rfl, rfl⟩
    go_wp2_with fail
    go_at_call 11
    refine (c5 _).mono ?_
    rintro e w' ⟨rfl, rfl⟩
    go_wp2_with fail
    go_at_call 10
    refine (told10 _ V1).mono ?_
    rintro e w' ⟨rfl, hB2⟩
    go_wp2
    go_ret
    exact ⟨rfl, hB.trans (hB2.mono hz)⟩
  · go_enter Tryd.func7, Tryd.ntmps7
    go_wp2_with fail
    go_at_call 10
    refine (told10 _ hV).mono ?_
    rintro e w' ⟨rfl, hB⟩
    go_wp2
    go_ret
    exact ⟨rfl, hB⟩
end Go.Proofs.YtdcdiniplomnkaaDoor
