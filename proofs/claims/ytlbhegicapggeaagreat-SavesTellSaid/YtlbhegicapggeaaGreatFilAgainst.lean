/- Files: what stands against a stroke. -/
import Derived.Test.YtlbhegicapggeaaGreatFilTurn
namespace Go.Proofs.YtlbhegicapggeaaGreat.fil
open Go.RowKit Go.Lib Go.Maps Go.WideMaps
set_option linter.unusedVariables false
set_option linter.unusedSimpArgs false
set_option linter.unnecessarySimpa false
set_option linter.unusedSectionVars false

/-- A variable that a function literal has captured. -/
def Box (w : World) (b : Nat) (t : TypeId) (v : Value) : Prop := At w b t #[v]
theorem Box.cell {w : World} {b : Nat} {t : TypeId} {v : Value} (h : Box w b t v) : w.cell? ⟨b, 0, none⟩ = some v := At.cell h 0
theorem Box.below {w w' : World} {b : Nat} {t : TypeId} {v : Value} (h : Box w b t v) (hB : Below w.heap.size w w') : Box w' b t v := At.same h (hB.block b (At.lt h))

section
variable {F : Nat → Prop} {fb mb : Nat} {D : DataW Unit} {G : List Gf} {dp : Option Addr} {s : St}

theorem syncA (b1 b2 : Nat) (nm : ByteArray) (w : World) (hn : nm.size ≤ maxLen) (h1 : Box w b1 25 (.pointer (some ⟨fb, 0, none⟩))) (h2 : Box w b2 9 (.string nm)) (h : Fs w fb mb D G dp s F) :
    Calls Tryz.prog 68 #[.pointer (some ⟨b1, 0, none⟩), .pointer (some ⟨b2, 0, none⟩)] w fun e w' => e = .returned (.int .i64 (errThere s nm.data.toList)) ∧ Below w.heap.size w w' := by
  have C := Lib.hid (missing_is nm w hn h)
  have k1 := h1.cell
  have k2 := h2.cell
  clear h h1 h2
  go_enter Tryz.func68, Tryz.ntmps68
  go_wp2_with (go_at_call 57; refine C.out.mono ?_; rintro e w' ⟨rfl, rfl⟩)
  go_ret
  exact ⟨rfl, Below.refl _ _⟩
theorem removeA (b1 b2 : Nat) (nm : ByteArray) (w : World) (hn : nm.size ≤ maxLen) (h1 : Box w b1 25 (.pointer (some ⟨fb, 0, none⟩))) (h2 : Box w b2 9 (.string nm)) (h : Fs w fb mb D G dp s F) :
    Calls Tryz.prog 60 #[.pointer (some ⟨b1, 0, none⟩), .pointer (some ⟨b2, 0, none⟩)] w fun e w' => e = .returned (.int .i64 (errThere s nm.data.toList)) ∧ Below w.heap.size w w' := by
  have C := Lib.hid (missing_is nm w hn h)
  have k1 := h1.cell
  have k2 := h2.cell
  clear h h1 h2
  go_enter Tryz.func60, Tryz.ntmps60
  go_wp2_with (go_at_call 57; refine C.out.mono ?_; rintro e w' ⟨rfl, rfl⟩)
  go_ret
  exact ⟨rfl, Below.refl _ _⟩
theorem renameA (b1 b2 b3 : Nat) (a b : ByteArray) (w : World) (ha : a.size ≤ maxLen) (hb : b.size ≤ maxLen) (h1 : Box w b1 25 (.pointer (some ⟨fb, 0, none⟩))) (h2 : Box w b2 9 (.string a)) (h3 : Box w b3 9 (.string b)) (h : Fs w fb mb D G dp s F) :
    Calls Tryz.prog 70 #[.pointer (some ⟨b1, 0, none⟩), .pointer (some ⟨b2, 0, none⟩), .pointer (some ⟨b3, 0, none⟩)] w fun e w' => e = .returned (.int .i64 (errRename s a.data.toList b.data.toList)) ∧ Below w.heap.size w w' := by
  have C := Lib.hid (missing_is a w ha h)
  have C2 := Lib.hid (isName_is b w hb)
  have k1 := h1.cell
  have k2 := h2.cell
  have k3 := h3.cell
  unfold errRename
  unfold errThere at C
  clear h h1 h2 h3
  cases hf : (find s.files a.data.toList).isNone
  · rw [hf] at C
    cases hi : isNm b.data.toList
    · rw [hi] at C2
      clear hf hi
      go_enter Tryz.func70, Tryz.ntmps70
      go_wp2_with (first | (go_at_call 57; refine C.out.mono ?_; rintro e w' ⟨rfl, rfl⟩) | (go_at_call 65; refine C2.out.mono ?_; rintro e w' ⟨rfl, rfl⟩))
      go_ret
      exact ⟨rfl, Below.refl _ _⟩
    · rw [hi] at C2
      clear hf hi
      go_enter Tryz.func70, Tryz.ntmps70
      go_wp2_with (first | (go_at_call 57; refine C.out.mono ?_; rintro e w' ⟨rfl, rfl⟩) | (go_at_call 65; refine C2.out.mono ?_; rintro e w' ⟨rfl, rfl⟩))
      go_ret
      exact ⟨rfl, Below.refl _ _⟩
  · rw [hf] at C
    clear hf C2
    go_enter Tryz.func70, Tryz.ntmps70
    go_wp2_with (go_at_call 57; refine C.out.mono ?_; rintro e w' ⟨rfl, rfl⟩)
    go_ret
    exact ⟨rfl, Below.refl _ _⟩
set_option maxRecDepth 100000 in
theorem appendA (b1 b2 b3 : Nat) (nm t : ByteArray) (w : World) (hn : nm.size ≤ maxLen) (ht : t.size ≤ maxLen) (h1 : Box w b1 25 (.pointer (some ⟨fb, 0, none⟩))) (h2 : Box w b2 9 (.string nm)) (h3 : Box w b3 9 (.string t)) (h : Fs w fb mb D G dp s F) :
    Calls Tryz.prog 64 #[.pointer (some ⟨b2, 0, none⟩), .pointer (some ⟨b1, 0, none⟩), .pointer (some ⟨b3, 0, none⟩)] w fun e w' => e = .returned (.int .i64 (errAppend s nm.data.toList t.data.toList.length)) ∧ Below w.heap.size w w' := by
  have hz : t.data.toList.length = t.size := by rw [Array.length_toList]; rfl
  have htt : t.size ≤ 9223372036854775807 := by unfold maxLen at ht; omega
  have C := Lib.hid (isName_is nm w hn)
  have C2 := Lib.hid (hasRoom_is nm t.size w hn htt h)
  have k1 := h1.cell
  have k2 := h2.cell
  have k3 := h3.cell
  rw [errAppend_room, hz]
  clear h h1 h2 h3 hz
  cases hi : isNm nm.data.toList
  · rw [hi] at C
    clear hi C2
    go_enter Tryz.func64, Tryz.ntmps64
    go_wp2_with (go_at_call 65; refine C.out.mono ?_; rintro e w' ⟨rfl, rfl⟩)
    go_ret
    exact ⟨rfl, Below.refl _ _⟩
  · rw [hi] at C
    cases hr : room s nm.data.toList t.size
    · rw [hr] at C2
      clear hi hr
      go_enter Tryz.func64, Tryz.ntmps64
      go_wp2_with (first | (go_at_call 65; refine C.out.mono ?_; rintro e w' ⟨rfl, rfl⟩) | (go_at_call 66; refine C2.out.mono ?_; rintro e w' ⟨rfl, hB⟩))
      go_ret
      exact ⟨rfl, hB⟩
    · rw [hr] at C2
      clear hi hr
      go_enter Tryz.func64, Tryz.ntmps64
      go_wp2_with (first | (go_at_call 65; refine C.out.mono ?_; rintro e w' ⟨rfl, rfl⟩) | (go_at_call 66; refine C2.out.mono ?_; rintro e w' ⟨rfl, hB⟩))
      go_ret
      exact ⟨rfl, hB⟩
set_option maxHeartbeats 1000000 in
set_option maxRecDepth 100000 in
theorem truncA (b1 b2 b3 : Nat) (nm : ByteArray) (n : Int) (w : World) (hn : nm.size ≤ maxLen) (h1 : Box w b1 25 (.pointer (some ⟨fb, 0, none⟩))) (h2 : Box w b2 9 (.string nm)) (h3 : Box w b3 3 (.int .i64 n)) (h : Fs w fb mb D G dp s F) :
    Calls Tryz.prog 73 #[.pointer (some ⟨b1, 0, none⟩), .pointer (some ⟨b2, 0, none⟩), .pointer (some ⟨b3, 0, none⟩)] w fun e w' => e = .returned (.int .i64 (errTrunc s nm.data.toList n)) ∧ Below w.heap.size w w' := by
  have C := Lib.hid (missing_is nm w hn h)
  have k1 := h1.cell
  have k2 := h2.cell
  have k3 := h3.cell
  have c1 := h.cells.2.1
  unfold errTrunc
  unfold errThere at C
  rcases hf : find s.files nm.data.toList with _ | x
  · rw [hf] at C
    clear h h1 h2 h3 hf
    go_enter Tryz.func73, Tryz.ntmps73
    go_wp2_with (go_at_call 57; refine C.out.mono ?_; rintro e w' ⟨rfl, rfl⟩)
    go_ret
    exact ⟨rfl, Below.refl _ _⟩
  · rw [hf] at C
    obtain ⟨g, hg, rfl, he⟩ := h.has hf
    have L := fun k => (h.drewN k).look1 nm hn hg he
    have c4 : w.cell? ⟨g.blk, 0, none⟩ = some g.v := (h.each g hg).blk.cell 0
    obtain ⟨A, c, hv⟩ := own_form (h.each g hg).row
    rw [hv] at c4
    show Calls _ _ _ _ fun e w' => e = .returned (.int .i64 (if n < 0 ∨ (g.f.bytes.length : Int) < n then 2 else 0)) ∧ _
    clear h h1 h2 h3 hf hg he hv
    generalize g.f.bytes.length = gl at *
    generalize g.blk = gb at *
    by_cases h0 : n < 0
    · have hd : decide (n < 0) = true := by simpa using h0
      rw [if_pos (.inl h0)]
      go_enter Tryz.func73, Tryz.ntmps73
      go_wp2_with (go_at_call 57; refine C.out.mono ?_; rintro e w' ⟨rfl, rfl⟩)
      go_quiet (fail)
      go_wp2
      go_ret
      exact ⟨rfl, below_drewN (Below.refl _ _) _⟩
    · have hd : decide (n < 0) = false := by simpa using h0
      by_cases h2 : (gl : Int) < n
      · have hd2 : decide ((gl : Int) < n) = true := by simpa using h2
        rw [if_pos (.inr h2)]
        go_enter Tryz.func73, Tryz.ntmps73
        go_wp2_with (go_at_call 57; refine C.out.mono ?_; rintro e w' ⟨rfl, rfl⟩)
        go_quiet (fail)
        go_wp2
        go_ret
        exact ⟨rfl, below_drewN (Below.refl _ _) _⟩
      · have hd2 : decide ((gl : Int) < n) = false := by simpa using h2
        rw [if_neg (fun h => h.elim h0 h2)]
        go_enter Tryz.func73, Tryz.ntmps73
        go_wp2_with (go_at_call 57; refine C.out.mono ?_; rintro e w' ⟨rfl, rfl⟩)
        go_quiet (fail)
        go_wp2
        go_ret
        exact ⟨rfl, below_drewN (Below.refl _ _) _⟩
end
end Go.Proofs.YtlbhegicapggeaaGreat.fil
