/- Files: the document's own system: its size, names, what is in the air. -/
import Derived.Test.YtlbhegicapggeaaGreatFilRefLook
import Derived.Test.YtlbhegicapggeaaGreatFilGo
namespace Go.Proofs.YtlbhegicapggeaaGreat.fil
open Go.RowKit Go.Lib Go.Maps Go.WideMaps
set_option linter.unusedVariables false
set_option linter.unusedSimpArgs false
set_option linter.unnecessarySimpa false
set_option linter.unusedSectionVars false

theorem one_int (z : Int) : ∀ u ∈ [Value.int .i64 z], u.oneCell' = true := by
  intro u hu; rw [List.mem_singleton.1 hu]; rfl
theorem total_take_succ {l : List Fl} {i : Nat} {x : Fl} (hx : l[i]? = some x) : total (l.take (i + 1)) = total (l.take i) + x.bytes.length := by
  rw [List.take_add_one, hx, total_append, Option.toList_some, total_cons, total_nil]; omega
theorem total_take_le (l : List Fl) (i : Nat) : total (l.take i) ≤ total l := by
  have : total (l.take i ++ l.drop i) = total (l.take i) + total (l.drop i) := total_append _ _
  rw [List.take_append_drop] at this; omega

section
variable {q : Bool} {w : World} {rb : Nat} {s : St} {v kv : Value} {z : Int} {fl : Bool} {F : Nat → Prop}
set_option maxHeartbeats 1000000 in
theorem refSize_is (w : World) (h : RFz q w rb s v kv z fl F) :
    Calls Tryz.prog 52 #[.pointer (some ⟨rb, 0, none⟩)] w fun e w' => e = .returned (.int .i64 (total s.files)) ∧ w = w' := by
  have c4 := h.cells.2.2.2.2.1
  have HR := Lib.hid h.row
  have hfew := h.ok.few
  have hroom : total s.files ≤ 1048576 := Nat.le_trans h.ok.room h.ok.cap2
  clear h
  obtain ⟨A, cc, rfl⟩ : ∃ A cc, v = .slice A s.files.length cc := by
    rcases HR.out.2 with ⟨hv, h0⟩ | ⟨b, cap, _, hv, _⟩
    · exact ⟨none, 0, by rw [hv, h0]⟩
    · exact ⟨_, _, hv⟩
  generalize hl : s.files = l at *
  clear hl
  generalize hll : l.length = n at *
  have HL := Lib.hid hll
  clear hll
  go_enter Tryz.func52, Tryz.ntmps52
  go_wp2
  go_loopg [3, 4] n (fun g s3 s4 wr => ∃ (i t : Nat), s4 = .int .i64 i ∧ s3 = .int .i64 t ∧ i ≤ n ∧ n - i ≤ g ∧ wr = w ∧ Hid (t = total (l.take i)))
  case atStart => exact ⟨0, 0, rfl, rfl, Nat.zero_le _, by omega, rfl, Lib.hid (by simp [total])⟩
  case round =>
    obtain ⟨i, t, rfl, rfl, hi, hg, rfl, HB⟩ := hrel
    have ht : t ≤ 1048576 := by rw [HB.out]; exact Nat.le_trans (total_take_le l i) hroom
    by_cases hlt : i < n
    · obtain ⟨x, hx⟩ : ∃ x, l[i]? = some x := ⟨l[i]'(by rw [HL.out]; exact hlt), List.getElem?_eq_getElem _⟩
      have hxl := total_mem (List.mem_of_getElem? hx)
      obtain ⟨g, off, c', hA, h0, hc1, hc2, _, hcell, _⟩ := own_cells HR.out (by omega)
      injection hA with hA _ hcc
      subst hA
      subst hcc
      have q0 : wr.cell? ⟨g, off + i * 3 + 1, none⟩ = some (.string (B x.bytes)) := by rw [Nat.add_assoc]; exact hcell (i * 3 + 1) _ ((fv_get l i 1 x hx (by omega)).trans rfl)
      have hc9 : cc ≤ 9223372036854775807 := by unfold maxLen at hc2; omega
      have hsz : (B x.bytes).size = x.bytes.length := B_size _
      have hs9 : (B x.bytes).size ≤ 1048576 := by omega
      have HT : Hid (t + (B x.bytes).size = total (l.take (i + 1))) := Lib.hid (by rw [total_take_succ hx, HB.out, hsz])
      clear h0 hcell hx hsz hxl
      generalize B x.bytes = xb at *
      have hw : IntKind.i64.wrap ((t : Int) + (xb.size : Int)) = ((t + xb.size : Nat) : Int) := by rw [show ((t : Int) + (xb.size : Int)) = ((t + xb.size : Nat) : Int) by omega]; exact IntWalk.i64_in _ (by omega)
      go_wp2
      go_roundg (n - (i + 1))
      case measure => omega
      case rel => exact ⟨i + 1, t + xb.size, by go_num, rfl, by omega, by omega, rfl, HT⟩
    · obtain rfl : i = n := by omega
      have HP : Hid (t = total l) := Lib.hid (by rw [HB.out, List.take_of_length_le (by rw [HL.out]; exact Nat.le_refl _)])
      go_wp2
      go_ret
      exact ⟨by rw [← HP.out]; rfl, rfl⟩

set_option maxHeartbeats 1000000 in
theorem refNames_is (w : World) (h : RFz q w rb s v kv z fl F) :
    Calls Tryz.prog 47 #[.pointer (some ⟨rb, 0, none⟩)] w (Tells w s.files.length (strV (namesOf s.files))) := by
  have HH := Lib.hid h
  have hfew := h.ok.few
  have hrb : rb < w.heap.size := h.head.lt
  obtain ⟨i0, hi0, hz0, hz1, hz2⟩ := info_parts info9
  have hml : (1000000 : Nat) ≤ maxLen := by unfold maxLen; omega
  obtain ⟨A, cc, rfl⟩ : ∃ A cc, v = .slice A s.files.length cc := by
    rcases h.row.2 with ⟨hv, h0⟩ | ⟨b, cap, _, hv, _⟩
    · exact ⟨none, 0, by rw [hv, h0]⟩
    · exact ⟨_, _, hv⟩
  clear h
  generalize hll : s.files.length = n at *
  have HL := Lib.hid hll
  clear hll
  go_enter Tryz.func47, Tryz.ntmps47
  go_wp2
  go_loopg [3, 4] n (fun g s3 s4 wr => ∃ (i : Nat), s4 = .int .i64 i ∧ i ≤ n ∧ n - i ≤ g ∧ wr.ownsRow w.heap.size 9 1 s3 i (strV ((namesOf s.files).take i)) ∧ Below w.heap.size w wr)
  case atStart => exact ⟨0, rfl, Nat.zero_le _, by omega, World.ownsRow_nil _ _ _ _, Below.refl _ _⟩
  case round =>
    obtain ⟨i, rfl, hi, hg, hown, hB⟩ := hrel
    have hsz := hB.size
    have HW := HH.out.below hB
    have c4 := HW.cells.2.2.2.2.1
    by_cases hlt : i < n
    · obtain ⟨x, hx⟩ : ∃ x, s.files[i]? = some x := ⟨s.files[i]'(by rw [HL.out]; exact hlt), List.getElem?_eq_getElem _⟩
      obtain ⟨g, off, c', hA, h0, _, hlc, hc9, _, _, q0, _, _, _⟩ := HW.at hx
      rw [HL.out] at hA hlc
      injection hA with hA _ hcc
      subst hA
      subst hcc
      have HT : Hid (strV ((namesOf s.files).take (i + 1)) = strV ((namesOf s.files).take i) ++ [.string (B x.name)]) := Lib.hid (by
        have e : (namesOf s.files)[i]? = some x.name := by simp [namesOf, hx]
        rw [List.take_add_one, e]
        simp [strV])
      clear HW h0 hx
      generalize B x.name = xn at *
      go_wp2_with (at_builtin; refine wpList_append_own _ rfl (.tmp 14) (.tmp 23) 65 rfl w.heap.size 9 i0 (.string ⟨#[]⟩) 1 16 Tryz.underlying65 hi0 hz0 hz1 hz2 rfl (by decide) _ _ _ rfl (hown.alloc _) ⟨wr.heap.size, 0, none⟩ 1 1 [.string xn] rfl rfl (cell_one_new _ _ _) (one_str _) (by omega) (by omega) (by simp; omega) ?_; intro v3 w3 hown3 hgrow3 _)
      have hB4 : Below w.heap.size w w3 := (hB.alloc hsz _).grown hgrow3 (by simp; omega) (fun j hj => (hown.lt j hj).1)
      go_roundg (n - (i + 1))
      case measure => omega
      case rel => exact ⟨i + 1, by go_num, by omega, by omega, by rw [HT.out]; exact hown3, hB4⟩
    · obtain rfl : i = n := by omega
      have e : (namesOf s.files).take i = namesOf s.files := List.take_of_length_le (by rw [namesOf_length, HL.out]; exact Nat.le_refl _)
      rw [e] at hown
      clear e HW
      obtain ⟨A3, c3, rfl, hc11, hc12⟩ := own_form2 hown
      have L3 := Lib.hid (LRd.of_own hown)
      clear hown
      go_wp2
      go_ret
      exact ⟨A3, c3, rfl, hc11, hc12, L3.out, hB⟩

set_option maxHeartbeats 1000000 in
theorem refUns_is (w : World) (h : RFz q w rb s v kv z fl F) :
    Calls Tryz.prog 50 #[.pointer (some ⟨rb, 0, none⟩)] w (Tells w s.files.length (iv (airOf s.files))) := by
  have HH := Lib.hid h
  have hfew := h.ok.few
  have hrb : rb < w.heap.size := h.head.lt
  obtain ⟨i0, hi0, hz0, hz1, hz2⟩ := info_parts info3
  have hml : (1000000 : Nat) ≤ maxLen := by unfold maxLen; omega
  have hroom : total s.files ≤ 1048576 := Nat.le_trans h.ok.room h.ok.cap2
  obtain ⟨A, cc, rfl⟩ : ∃ A cc, v = .slice A s.files.length cc := by
    rcases h.row.2 with ⟨hv, h0⟩ | ⟨b, cap, _, hv, _⟩
    · exact ⟨none, 0, by rw [hv, h0]⟩
    · exact ⟨_, _, hv⟩
  clear h
  generalize hll : s.files.length = n at *
  have HL := Lib.hid hll
  clear hll
  go_enter Tryz.func50, Tryz.ntmps50
  go_wp2
  go_loopg [3, 4] n (fun g s3 s4 wr => ∃ (i : Nat), s4 = .int .i64 i ∧ i ≤ n ∧ n - i ≤ g ∧ wr.ownsRow w.heap.size 3 1 s3 i (iv ((airOf s.files).take i)) ∧ Below w.heap.size w wr)
  case atStart => exact ⟨0, rfl, Nat.zero_le _, by omega, World.ownsRow_nil _ _ _ _, Below.refl _ _⟩
  case round =>
    obtain ⟨i, rfl, hi, hg, hown, hB⟩ := hrel
    have hsz := hB.size
    have HW := HH.out.below hB
    have c4 := HW.cells.2.2.2.2.1
    by_cases hlt : i < n
    · obtain ⟨x, hx⟩ : ∃ x, s.files[i]? = some x := ⟨s.files[i]'(by rw [HL.out]; exact hlt), List.getElem?_eq_getElem _⟩
      have hpl := HH.out.ok.plat x (List.mem_of_getElem? hx)
      have hxl := total_mem (List.mem_of_getElem? hx)
      obtain ⟨g, off, c', hA, h0, _, hlc, hc9, _, _, _, q1, q2, _⟩ := HW.at hx
      rw [HL.out] at hA hlc
      injection hA with hA _ hcc
      subst hA
      subst hcc
      have HT : Hid (iv ((airOf s.files).take (i + 1)) = iv ((airOf s.files).take i) ++ [.int .i64 ((x.bytes.length - x.plat : Nat) : Int)]) := Lib.hid (by
        have e : (airOf s.files)[i]? = some ((x.bytes.length - x.plat : Nat) : Int) := by simp [airOf, hx]
        rw [List.take_add_one, e]
        simp [iv])
      have hsb : (B x.bytes).size = x.bytes.length := B_size _
      rw [← hsb] at HT hpl hxl
      clear HW h0 hx hsb
      generalize B x.bytes = xb at *
      generalize x.plat = p at *
      have hb2 : xb.size ≤ 1048576 := by omega
      have hw : IntKind.i64.wrap ((xb.size : Int) - (p : Int)) = ((xb.size - p : Nat) : Int) := by rw [show ((xb.size : Int) - (p : Int)) = ((xb.size - p : Nat) : Int) by omega]; exact IntWalk.i64_in _ (by omega)
      have hi32 : (i : Int) < (n : Int) := by omega
      go_wp2
      go_region_law (refine step_append_lies _ rfl _ _ 32 rfl w.heap.size 3 i0 (.int .i64 0) 1 8 Tryz.underlying32 hi0 hz0 hz1 hz2 rfl (by decide) _ i (iv ((airOf s.files).take i)) rfl (hown.alloc _) ⟨wr.heap.size, 0, none⟩ 1 1 [.int .i64 ((xb.size - p : Nat) : Int)] rfl rfl (cell_one_new _ _ _) (one_int _) (by decide) (by omega) (by omega) (by simp; omega) _ rfl ?_; intro g3 c3 w3 hown3 hgrow3 _ _)
      all_goals
        have hB4 : Below w.heap.size w w3 := (below_drew (hB.alloc hsz _)).grown hgrow3 (by simp; omega) (fun j hj => (hown.lt j hj).1)
        go_wp2
        go_roundg (n - (i + 1))
        case measure => omega
        case rel => exact ⟨i + 1, by go_num, by omega, by omega, by rw [HT.out]; exact hown3, hB4⟩
    · obtain rfl : i = n := by omega
      have e : (airOf s.files).take i = airOf s.files := List.take_of_length_le (by unfold airOf; rw [List.length_map, HL.out]; exact Nat.le_refl _)
      rw [e] at hown
      clear e HW
      obtain ⟨A3, c3, rfl, hc11, hc12⟩ := own_form2 hown
      have L3 := Lib.hid (LRd.of_own hown)
      clear hown
      go_wp2
      go_ret
      exact ⟨A3, c3, rfl, hc11, hc12, L3.out, hB⟩
end
end Go.Proofs.YtlbhegicapggeaaGreat.fil
