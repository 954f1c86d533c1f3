/- Files: what a file system tells: its files' bytes, whether it is on, how many starts were, its size, whether there is room. -/
import Derived.Test.YtlbhegicapggeaaGreatFilLook
import Derived.Deep.LoopGhost
namespace Go.Proofs.YtlbhegicapggeaaGreat.fil
open Go.RowKit Go.Lib Go.Maps Go.WideMaps
set_option linter.unusedVariables false
set_option linter.unusedSimpArgs false
set_option linter.unnecessarySimpa false
set_option linter.unusedSectionVars false

section
variable {q : Bool} {F : Nat → Prop} {fb mb : Nat} {D : DataW Unit} {G : List Gf} {dp : Option Addr} {s : St}

theorem up_no (p : Option Addr) (w : World) (h : NoFs w p) : Calls Tryz.prog 53 #[.pointer p] w fun e w' => e = .returned (.bool false) ∧ w = w' := by
  have C := Lib.hid (isNone_no p w h)
  clear h
  go_enter Tryz.func53, Tryz.ntmps53
  go_wp2_with (go_at_call 76; refine C.out.mono ?_; rintro e w' ⟨rfl, rfl⟩)
  go_ret
  exact ⟨rfl, rfl⟩
theorem up_is (w : World) (h : Fz q w fb mb D G dp s F) : Calls Tryz.prog 53 #[.pointer (some ⟨fb, 0, none⟩)] w fun e w' => e = .returned (.bool (!s.off)) ∧ w = w' := by
  have C := Lib.hid (isNone_is w h)
  have c2 := h.cells.2.2.1
  clear h
  go_enter Tryz.func53, Tryz.ntmps53
  go_wp2_with (go_at_call 76; refine C.out.mono ?_; rintro e w' ⟨rfl, rfl⟩)
  go_ret
  exact ⟨rfl, rfl⟩

theorem starts_no (p : Option Addr) (w : World) (h : NoFs w p) : Calls Tryz.prog 54 #[.pointer p] w fun e w' => e = .returned (.int .i64 0) ∧ w = w' := by
  have C := Lib.hid (isNone_no p w h)
  clear h
  go_enter Tryz.func54, Tryz.ntmps54
  go_wp2_with (go_at_call 76; refine C.out.mono ?_; rintro e w' ⟨rfl, rfl⟩)
  go_ret
  exact ⟨rfl, rfl⟩
theorem starts_is (w : World) (h : Fz q w fb mb D G dp s F) : Calls Tryz.prog 54 #[.pointer (some ⟨fb, 0, none⟩)] w fun e w' => e = .returned (.int .i64 s.starts) ∧ w = w' := by
  have C := Lib.hid (isNone_is w h)
  have c3 := h.cells.2.2.2.1
  clear h
  go_enter Tryz.func54, Tryz.ntmps54
  go_wp2_with (go_at_call 76; refine C.out.mono ?_; rintro e w' ⟨rfl, rfl⟩)
  go_ret
  exact ⟨rfl, rfl⟩

/-! ### Read -/
/-- What Read tells. -/
def reads (s : St) (nm : List UInt8) : List UInt8 × Int :=
  if s.off = true then ([], 51) else match find s.files nm with | none => ([], 4) | some x => (x.bytes, 0)
theorem read_no (p : Option Addr) (nm : ByteArray) (w : World) (h : NoFs w p) : Calls Tryz.prog 18 #[.pointer p, .string nm] w fun e w' => e = .returned (.tuple #[.string ⟨#[]⟩, .int .i64 1]) ∧ w = w' := by
  have C := Lib.hid (useless_no p w h)
  clear h
  go_enter Tryz.func18, Tryz.ntmps18
  go_wp2_with (go_at_call 56; refine C.out.mono ?_; rintro e w' ⟨rfl, rfl⟩)
  go_ret2
  exact ⟨rfl, rfl⟩
theorem own_form {w : World} {base e n : Nat} {v : Value} {xs : List Value} (h : w.ownsRow base e 1 v n xs) : ∃ A c, v = .slice A n c := by
  rcases h.2 with ⟨hv, h0⟩ | ⟨b, cap, _, hv, _⟩
  · exact ⟨none, 0, by rw [hv, h0]⟩
  · exact ⟨_, _, hv⟩
/-- A row of bytes as a text. -/
theorem row_text (w : World) {v : Value} {l : List UInt8} (h : w.ownsRow 0 5 1 v l.length (bv l)) : (convert 23 9 v).run Tryz.prog w = .ok (.string (B l)) w := by
  rcases h.2 with ⟨rfl, h0⟩ | ⟨g, cap, cur, rfl, _⟩
  · obtain rfl : l = [] := List.eq_nil_of_length_eq_zero h0
    exact run_convert_bytes_nil w 23 5 Tryz.underlying23 Tryz.underlying5 0 0 9 Tryz.underlying9
  · refine run_convert_bytes_back (P := Tryz.prog) w 23 9 5 ⟨g, 0, none⟩ cap l Tryz.underlying23 Tryz.underlying5 Tryz.underlying9 (fun j hj => ?_)
    refine h.cells (g := g) rfl j _ ?_
    simp [bv, List.getElem?_eq_getElem hj]

set_option maxRecDepth 100000 in
theorem read_is (nm : ByteArray) (w : World) (hn : nm.size ≤ maxLen) (h : Fz q w fb mb D G dp s F) :
    Calls Tryz.prog 18 #[.pointer (some ⟨fb, 0, none⟩), .string nm] w fun e w' => e = .returned (.tuple #[.string (B (reads s nm.data.toList).1), .int .i64 (reads s nm.data.toList).2]) ∧ w = w' := by
  have C := Lib.hid (useless_is w h)
  have C2 := Lib.hid (missing_is nm w hn h)
  have c1 := h.cells.2.1
  unfold down at C
  unfold reads
  rcases hb : s.off with _ | _
  · rw [hb] at C
    unfold errThere at C2
    rcases hf : find s.files nm.data.toList with _ | x
    · rw [hf] at C2
      clear h hb hf
      go_enter Tryz.func18, Tryz.ntmps18
      go_wp2_with (first | (go_at_call 56; refine C.out.mono ?_; rintro e w' ⟨rfl, rfl⟩) | (go_at_call 57; refine C2.out.mono ?_; rintro e w' ⟨rfl, rfl⟩))
      go_ret2
      exact ⟨rfl, rfl⟩
    · rw [hf] at C2
      obtain ⟨g, hg, rfl, he⟩ := h.has hf
      have L := h.look1 nm hn hg he
      have T := row_text w (h.each g hg).row
      have k0 : w.cell? ⟨g.blk, 0, none⟩ = some g.v := (h.each g hg).blk.cell 0
      clear h hb hf hg he
      generalize g.blk = b at *
      generalize g.v = v at *
      go_enter Tryz.func18, Tryz.ntmps18
      go_wp2_with (first | (go_at_call 56; refine C.out.mono ?_; rintro e w' ⟨rfl, rfl⟩) | (go_at_call 57; refine C2.out.mono ?_; rintro e w' ⟨rfl, rfl⟩))
      go_ret2
      exact ⟨rfl, rfl⟩
  · rw [hb] at C
    clear h hb C2
    go_enter Tryz.func18, Tryz.ntmps18
    go_wp2_with (go_at_call 56; refine C.out.mono ?_; rintro e w' ⟨rfl, rfl⟩)
    go_ret2
    exact ⟨rfl, rfl⟩
end
end Go.Proofs.YtlbhegicapggeaaGreat.fil
