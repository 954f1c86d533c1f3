/- Files: the document's own system: what it tells. -/
import Derived.Test.YtlbhegicapggeaaGreatFilRef
import Derived.Test.YtlbhegicapggeaaGreatFilCrash
import Derived.Deep.AppendLies
import Derived.BigQuiet
namespace Go.Proofs.YtlbhegicapggeaaGreat.fil
open Go.RowKit Go.Lib Go.Maps Go.WideMaps
set_option linter.unusedVariables false
set_option linter.unusedSimpArgs false
set_option linter.unnecessarySimpa false
set_option linter.unusedSectionVars false

/-! ### New, Name -/
theorem refName_is (nm : ByteArray) (w : World) (hn : nm.size ≤ maxLen) : Calls Tryz.prog 20 #[.string nm] w fun e w' => e = .returned (.bool (isNm nm.data.toList)) ∧ w = w' := by
  have hb : nm.size ≤ 9223372036854775807 := by unfold maxLen at hn; omega
  have hz : nm.data.toList.length = nm.size := by rw [Array.length_toList]; rfl
  unfold isNm
  rw [hz]
  clear hz
  by_cases h0 : 1 ≤ nm.size
  · have hq : decide ((1 : Int) ≤ (nm.size : Int)) = true := decide_eq_true (by omega)
    have hq2 : decide (1 ≤ nm.size) = true := decide_eq_true h0
    rw [hq2]
    go_enter Tryz.func20, Tryz.ntmps20
    go_wp2
    go_ret
    exact ⟨ret_bool (by simp; omega), rfl⟩
  · have hq : decide ((1 : Int) ≤ (nm.size : Int)) = false := decide_eq_false (by omega)
    have hq2 : decide (1 ≤ nm.size) = false := decide_eq_false h0
    rw [hq2]
    go_enter Tryz.func20, Tryz.ntmps20
    go_wp2
    go_ret
    exact ⟨rfl, rfl⟩
theorem refNew_no (c : Int) (w : World) (h : c < 1 ∨ 1048576 < c) : Calls Tryz.prog 6 #[.int .i64 c] w fun e w' => e = .returned (.tuple #[.pointer none, .int .i64 2]) ∧ w = w' := by
  rcases h with h | h
  · go_enter Tryz.func6, Tryz.ntmps6
    go_wp2
    go_ret2
    exact ⟨rfl, rfl⟩
  · have h1 : ¬ c < 1 := by omega
    go_enter Tryz.func6, Tryz.ntmps6
    go_wp2
    go_ret2
    exact ⟨rfl, rfl⟩
theorem refNew_is (n : Nat) (w : World) (h1 : 1 ≤ n) (h2 : n ≤ 1048576) :
    Calls Tryz.prog 6 #[.int .i64 n] w fun e w' => e = .returned (.tuple #[.pointer (some ⟨w.heap.size, 0, none⟩), .int .i64 0]) ∧ Below w.heap.size w w' ∧ RIs w' w.heap.size (sNew n) (fun b => w.heap.size ≤ b ∧ b < w'.heap.size) := by
  have h3 : ¬ (n : Int) < 1 := by omega
  have h4 : ¬ (1048576 : Int) < (n : Int) := by omega
  have HE : Hid (RIs (w.alloc (.cells #[.int .i64 n, .int .i64 0, .bool false, .bool false, .slice none 0 0, .int .i64 0, .slice none 0 0] 53)) w.heap.size (sNew n) (fun b => w.heap.size ≤ b ∧ b < (w.alloc (.cells #[.int .i64 n, .int .i64 0, .bool false, .bool false, .slice none 0 0, .int .i64 0, .slice none 0 0] 53)).heap.size)) := Lib.hid (by
    refine ⟨.slice none 0 0, .slice none 0 0, 0, false, ok_new h1 h2, At.new w _ _, World.ownsRow_nil _ _ _ _, fun b hb => (by simp [Value.ownBlock] at hb), fun _ => rfl, ⟨by omega, by simp⟩, fun b hb => hb.2⟩)
  go_enter Tryz.func6, Tryz.ntmps6
  go_wp2
  go_ret2
  exact ⟨rfl, (Below.refl _ w).alloc (Nat.le_refl _) _, HE.out⟩

section
variable {q : Bool} {w : World} {rb : Nat} {s : St} {v kv : Value} {z : Int} {fl : Bool} {F : Nat → Prop}
/-! ### Place -/
theorem place_at {l : List Fl} {nm : List UInt8} {i : Nat} {x : Fl} (hx : l[i]? = some x) (hn : x.name = nm) (hb : ∀ j y, j < i → l[j]? = some y → ¬ y.name = nm) : placeN l nm = (i : Int) := by
  have : place l nm = some i := by
    unfold place
    have hi := (List.getElem?_eq_some_iff.1 hx).1
    have hxe := (List.getElem?_eq_some_iff.1 hx).2
    rw [List.findIdx?_eq_some_iff_getElem]
    refine ⟨hi, by rw [hxe]; simpa using hn, fun j hj => ?_⟩
    simpa using hb j _ hj (List.getElem?_eq_getElem (by omega))
  unfold placeN
  rw [this]
theorem place_not {l : List Fl} {nm : List UInt8} (hb : ∀ j y, j < l.length → l[j]? = some y → ¬ y.name = nm) : placeN l nm = -1 := by
  have : place l nm = none := by
    unfold place
    rw [List.findIdx?_eq_none_iff]
    intro x hx
    obtain ⟨j, hj, rfl⟩ := List.getElem_of_mem hx
    simpa using hb j _ hj (List.getElem?_eq_getElem hj)
  unfold placeN
  rw [this]
set_option maxHeartbeats 1000000 in
theorem place_is (nm : ByteArray) (w : World) (hn : nm.size ≤ maxLen) (h : RFz q w rb s v kv z fl F) :
    Calls Tryz.prog 23 #[.pointer (some ⟨rb, 0, none⟩), .string nm] w fun e w' => e = .returned (.int .i64 (placeN s.files nm.data.toList)) ∧ w = w' := by
  obtain ⟨c0, c1, c2, c3, c4, c5, c6⟩ := h.cells
  have HR := Lib.hid h.row
  have hfew := h.ok.few
  clear h c0 c1 c2 c3 c5 c6
  obtain ⟨A, cc, rfl⟩ : ∃ A cc, v = .slice A s.files.length cc := by
    rcases HR.out.2 with ⟨hv, h0⟩ | ⟨b, cap, _, hv, _⟩
    · exact ⟨none, 0, by rw [hv, h0]⟩
    · exact ⟨_, _, hv⟩
  generalize hl : s.files = l at *
  clear hl
  generalize hll : l.length = n at *
  have HL := Lib.hid hll
  clear hll
  go_enter Tryz.func23, Tryz.ntmps23
  go_wp2
  go_loopg [5] n (fun g s5 wr => ∃ i : Nat, s5 = .int .i64 i ∧ i ≤ n ∧ n - i ≤ g ∧ wr = w ∧ Hid (∀ j y, j < i → l[j]? = some y → ¬ y.name = nm.data.toList))
  case atStart => exact ⟨0, rfl, Nat.zero_le _, by omega, rfl, Lib.hid (fun j y hj => absurd hj (by omega))⟩
  case round =>
    obtain ⟨i, rfl, hi, hg, rfl, HB⟩ := hrel
    by_cases hlt : i < n
    · obtain ⟨x, hx⟩ : ∃ x, l[i]? = some x := ⟨l[i]'(by rw [HL.out]; exact hlt), List.getElem?_eq_getElem _⟩
      obtain ⟨g, off, c', hA, h0, hc1, hc2, _, hcell, _⟩ := own_cells HR.out (by omega)
      injection hA with hA _ hcc
      subst hA
      subst hcc
      have q0 : wr.cell? ⟨g, off + i * 3, none⟩ = some (.string (B x.name)) := hcell (i * 3) _ ((fv_get l i 0 x hx (by omega)).trans rfl)
      clear h0 hcell
      have hc9 : cc ≤ 9223372036854775807 := by unfold maxLen at hc2; omega
      by_cases heq : B x.name = nm
      · have hb : ((B x.name).toList == nm.toList) = true := by rw [heq]; simp
        have HP := Lib.hid (place_at hx (show x.name = nm.data.toList by rw [← heq]) HB.out)
        clear heq hx
        generalize B x.name = xn at *
        go_wp2
        go_ret
        exact ⟨by rw [HP.out]; rfl, rfl⟩
      · have hb : ((B x.name).toList == nm.toList) = false := (Lib.bytes_beq_false_iff _ _).2 heq
        have HN : Hid (∀ j y, j < i + 1 → l[j]? = some y → ¬ y.name = nm.data.toList) := Lib.hid (fun j y hj hy => by
          rcases Nat.lt_or_ge j i with h | h
          · exact HB.out j y h hy
          · have : j = i := by omega
            subst this
            rw [hx] at hy
            injection hy with hy
            subst hy
            exact fun e => heq (by rw [e, B_list]))
        clear heq hx
        generalize B x.name = xn at *
        go_wp2
        go_roundg (n - (i + 1))
        case measure => omega
        case rel => exact ⟨i + 1, by go_num, by omega, by omega, rfl, HN⟩
    · obtain rfl : i = n := by omega
      have HP := Lib.hid (place_not (l := l) (nm := nm.data.toList) (fun j y hj => HB.out j y (by rw [← HL.out]; exact hj)))
      go_wp2
      go_ret
      exact ⟨by rw [HP.out]; rfl, rfl⟩

/-! ### there, Read -/
theorem there_off (nm : ByteArray) (w : World) (hon : s.off = true) (h : RFz q w rb s v kv z fl F) :
    Calls Tryz.prog 58 #[.pointer (some ⟨rb, 0, none⟩), .string nm] w fun e w' => e = .returned (.tuple #[.int .i64 0, .int .i64 51]) ∧ w = w' := by
  have c2 := h.cells.2.2.1
  rw [hon] at c2
  clear h
  go_enter Tryz.func58, Tryz.ntmps58
  go_wp2
  go_ret2
  exact ⟨rfl, rfl⟩
theorem there_none (nm : ByteArray) (w : World) (hn : nm.size ≤ maxLen) (hon : s.off = false) (hf : find s.files nm.data.toList = none) (h : RFz q w rb s v kv z fl F) :
    Calls Tryz.prog 58 #[.pointer (some ⟨rb, 0, none⟩), .string nm] w fun e w' => e = .returned (.tuple #[.int .i64 0, .int .i64 4]) ∧ w = w' := by
  have c2 := h.cells.2.2.1
  rw [hon] at c2
  have C := place_is nm w hn h
  unfold placeN at C
  rw [place_none hf] at C
  have C := Lib.hid C
  clear h
  go_enter Tryz.func58, Tryz.ntmps58
  go_wp2_with (go_at_call 23; refine C.out.mono ?_; rintro e w' ⟨rfl, rfl⟩)
  go_ret2
  exact ⟨rfl, rfl⟩
theorem there_some (nm : ByteArray) (w : World) (i : Nat) (hn : nm.size ≤ maxLen) (hon : s.off = false) (hp : place s.files nm.data.toList = some i) (h : RFz q w rb s v kv z fl F) :
    Calls Tryz.prog 58 #[.pointer (some ⟨rb, 0, none⟩), .string nm] w fun e w' => e = .returned (.tuple #[.int .i64 i, .int .i64 0]) ∧ w = w' := by
  have c2 := h.cells.2.2.1
  rw [hon] at c2
  have C := place_is nm w hn h
  unfold placeN at C
  rw [hp] at C
  have C := Lib.hid C
  clear h
  have hnn : ¬ (i : Int) < 0 := by omega
  go_enter Tryz.func58, Tryz.ntmps58
  go_wp2_with (go_at_call 23; refine C.out.mono ?_; rintro e w' ⟨rfl, rfl⟩)
  go_ret2
  exact ⟨rfl, rfl⟩
/-- The row, and one file's cells. -/
theorem RFz.at (h : RFz q w rb s v kv z fl F) {i : Nat} {x : Fl} (hx : s.files[i]? = some x) :
    ∃ g off c, v = .slice (some ⟨g, off, none⟩) s.files.length c ∧ Hid (off = 0) ∧ i < s.files.length ∧ s.files.length ≤ c ∧ c ≤ 9223372036854775807 ∧ g < w.heap.size ∧ F g ∧
      w.cell? ⟨g, off + i * 3, none⟩ = some (.string (B x.name)) ∧ w.cell? ⟨g, off + i * 3 + 1, none⟩ = some (.string (B x.bytes)) ∧ w.cell? ⟨g, off + i * 3 + 2, none⟩ = some (.int .i64 x.plat) ∧ (∀ j, w.frozen? ⟨g, off + j, none⟩ = false) := by
  have hi := (List.getElem?_eq_some_iff.1 hx).1
  obtain ⟨g, off, c, rfl, h0, h1, h2, h3, h4, h5⟩ := own_cells h.row (by omega)
  refine ⟨g, off, c, rfl, h0, hi, h1, by unfold maxLen at h2; omega, h3, h.rowF g rfl, h4 (i * 3) _ ((fv_get _ i 0 x hx (by omega)).trans rfl), ?_, ?_, h5⟩
  · rw [Nat.add_assoc]; exact h4 (i * 3 + 1) _ ((fv_get _ i 1 x hx (by omega)).trans rfl)
  · rw [Nat.add_assoc]; exact h4 (i * 3 + 2) _ ((fv_get _ i 2 x hx (by omega)).trans rfl)
theorem refRead_is (nm : ByteArray) (w : World) (hn : nm.size ≤ maxLen) (h : RFz q w rb s v kv z fl F) :
    Calls Tryz.prog 21 #[.pointer (some ⟨rb, 0, none⟩), .string nm] w fun e w' => e = .returned (.tuple #[.string (B (reads s nm.data.toList).1), .int .i64 (reads s nm.data.toList).2]) ∧ w = w' := by
  unfold reads
  by_cases hon : s.off = true
  · have C := Lib.hid (there_off nm w hon h)
    rw [if_pos hon]
    clear h
    go_enter Tryz.func21, Tryz.ntmps21
    go_wp2_with (go_at_call 58; refine C.out.mono ?_; rintro e w' ⟨rfl, rfl⟩)
    go_ret2
    exact ⟨rfl, rfl⟩
  · rw [if_neg hon]
    have hon' : s.off = false := by simpa using hon
    rcases hf : find s.files nm.data.toList with _ | x
    · have C := Lib.hid (there_none nm w hn hon' hf h)
      clear h hf
      go_enter Tryz.func21, Tryz.ntmps21
      go_wp2_with (go_at_call 58; refine C.out.mono ?_; rintro e w' ⟨rfl, rfl⟩)
      go_ret2
      exact ⟨rfl, rfl⟩
    · obtain ⟨i, hp, hx⟩ := place_some hf
      have C := Lib.hid (there_some nm w i hn hon' hp h)
      have c4 := h.cells.2.2.2.2.1
      obtain ⟨g, off, c, rfl, _, hi, hlc, hc9, _, _, q0, q1, q2, _⟩ := h.at hx
      clear h hf hp hx
      generalize s.files.length = n at *
      generalize B x.bytes = xb at *
      go_enter Tryz.func21, Tryz.ntmps21
      go_wp2_with (go_at_call 58; refine C.out.mono ?_; rintro e w' ⟨rfl, rfl⟩)
      go_ret2
      exact ⟨rfl, rfl⟩
end
end Go.Proofs.YtlbhegicapggeaaGreat.fil
