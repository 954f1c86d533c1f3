/- Saves, the laws: calls at a file system that was made since then; the chapter's examples. -/
import Derived.Test.YtlbhegicapggeaaGreatFilGo
import Derived.Test.YtlbhegicapggeaaGreatSavWrite
import Derived.BigQuiet
namespace Go.Proofs.YtlbhegicapggeaaGreat.sav
open Go.RowKit Go.Lib Go.Maps Go.WideMaps fil
set_option linter.unusedVariables false
set_option linter.unusedSimpArgs false
set_option linter.unnecessarySimpa false
set_option linter.unusedSectionVars false

section
variable {n fb : Nat} {w0 w w' : World} {s s' : St} {F : Nat → Prop}
theorem write_run (nm t : ByteArray) (hn : nm.size ≤ maxLen) (ht : t.size ≤ maxLen) (h : Run n w0 fb s w) :
    Calls Tryz.prog 11 #[.pointer (some ⟨fb, 0, none⟩), .string nm, .string t] w fun e w' => e = .returned (.int .i64 (sWrite s nm.data.toList t.data.toList).1) ∧ Run n w0 fb (sWrite s nm.data.toList t.data.toList).2 w' := by
  obtain ⟨F, h1, h2⟩ := h.is
  exact (write_is nm t w hn ht h2).mono fun e w' ⟨he, hW⟩ => ⟨he, Run.went h.below h.room h1 hW⟩
theorem clean_run (h : Run n w0 fb s w) :
    Calls Tryz.prog 9 #[.pointer (some ⟨fb, 0, none⟩)] w fun e w' => e = .returned (.int .i64 (sClean s).1) ∧ Run n w0 fb (sClean s).2 w' := by
  obtain ⟨F, h1, h2⟩ := h.is
  exact (clean_is w h2).mono fun e w' ⟨he, hW⟩ => ⟨he, Run.went h.below h.room h1 hW⟩
theorem load_run (nm : ByteArray) (hn : nm.size ≤ maxLen) (h : Run n w0 fb s w) :
    Calls Tryz.prog 7 #[.pointer (some ⟨fb, 0, none⟩), .string nm] w fun e w' => e = .returned (.tuple #[.string (B (sLoad s nm.data.toList).1), .int .i64 (sLoad s nm.data.toList).2]) ∧ w = w' := by
  obtain ⟨F, h1, h2⟩ := h.is
  exact load_is nm w hn h2
theorem up_alloc (w : World) {o : Obj} : Below w.heap.size w (w.alloc o) := (Below.refl _ w).alloc (Nat.le_refl _) o
/-- Same, asked of the names that a system told, and of the one name in a literal. -/
theorem names_one (A : Option Addr) (c c2 lo hi : Nat) (w : World) (g : Nat) (a : List UInt8) (h : LRd w lo hi A (strV [a])) (hhi : hi ≤ w.heap.size) (hA : At w g 9 #[.string (B a)]) :
    Calls Tryz.prog 46 #[.slice A 1 c, .slice (some ⟨g, 0, none⟩) 1 c2] w fun e w' => e = .returned (.bool true) ∧ Below w.heap.size w w' := by
  have hlt := hA.lt
  refine same_yes A _ c c2 1 lo hi g (g + 1) [a] w rfl (by omega) hhi (by omega) h (fun _ => ⟨g, 0, rfl, Nat.le_refl _, by omega, fun j u hj => ?_⟩)
  rw [hA.cell]
  simpa [strV] using hj

set_option maxHeartbeats 4000000 in
set_option maxRecDepth 100000 in
theorem does_is (w : World) : Calls Tryz.prog 16 #[] w fun e w' => e = .returned (.bool true) ∧ Below w.heap.size w w' := by
  have C0 := Lib.hid (new_run 10 w (by omega) (by omega))
  go_enter Tryz.func16, Tryz.ntmps16
  go_wp2_with fail
  go_at_call 5
  refine C0.out.mono ?_
  rintro e w1 ⟨rfl, hR⟩
  clear C0
  have C : Hid (Calls Tryz.prog 11 #[.pointer (some ⟨w.heap.size + 1, 0, none⟩), .string ⟨#[97]⟩, .string ⟨#[49, 50, 51, 52, 53, 54]⟩] w1 fun e w' => e = .returned (.int .i64 0) ∧ Run w.heap.size w (w.heap.size + 1) exS w') := Lib.hid (write_run ⟨#[97]⟩ ⟨#[49, 50, 51, 52, 53, 54]⟩ (by decide) (by decide) hR)
  clear hR
  go_wp2_with fail
  go_at_call 11
  refine C.out.mono ?_
  rintro e w2 ⟨rfl, hR⟩
  clear C
  have C : Hid (Calls Tryz.prog 7 #[.pointer (some ⟨w.heap.size + 1, 0, none⟩), .string ⟨#[97]⟩] w2 fun e w' => e = .returned (.tuple #[.string ⟨#[49, 50, 51, 52, 53, 54]⟩, .int .i64 0]) ∧ w2 = w') := Lib.hid (load_run ⟨#[97]⟩ (by decide) hR)
  go_wp2_with fail
  go_at_call 7
  refine C.out.mono ?_
  rintro e w' ⟨rfl, rfl⟩
  clear C
  have C : Hid (Calls Tryz.prog 11 #[.pointer (some ⟨w.heap.size + 1, 0, none⟩), .string ⟨#[97]⟩, .string ⟨#[49, 50, 51, 52, 53]⟩] w2 fun e w' => e = .returned (.int .i64 50) ∧ Run w.heap.size w (w.heap.size + 1) exS w') := Lib.hid (write_run ⟨#[97]⟩ ⟨#[49, 50, 51, 52, 53]⟩ (by decide) (by decide) hR)
  clear hR
  go_wp2_with fail
  go_at_call 11
  refine C.out.mono ?_
  rintro e w3 ⟨rfl, hR⟩
  clear C
  have C : Hid (Calls Tryz.prog 7 #[.pointer (some ⟨w.heap.size + 1, 0, none⟩), .string ⟨#[97]⟩] w3 fun e w' => e = .returned (.tuple #[.string ⟨#[49, 50, 51, 52, 53, 54]⟩, .int .i64 0]) ∧ w3 = w') := Lib.hid (load_run ⟨#[97]⟩ (by decide) hR)
  go_wp2_with fail
  go_at_call 7
  refine C.out.mono ?_
  rintro e w' ⟨rfl, rfl⟩
  clear C
  have C : Hid (Calls Tryz.prog 7 #[.pointer (some ⟨w.heap.size + 1, 0, none⟩), .string ⟨#[98]⟩] w3 fun e w' => e = .returned (.tuple #[.string ⟨#[]⟩, .int .i64 4]) ∧ w3 = w') := Lib.hid (load_run ⟨#[98]⟩ (by decide) hR)
  go_wp2_with fail
  go_at_call 7
  refine C.out.mono ?_
  rintro e w' ⟨rfl, rfl⟩
  clear C
  have C : Hid (Calls Tryz.prog 11 #[.pointer (some ⟨w.heap.size + 1, 0, none⟩), .string ⟨#[126]⟩, .string ⟨#[]⟩] w3 fun e w' => e = .returned (.int .i64 2) ∧ Run w.heap.size w (w.heap.size + 1) exS w') := Lib.hid (write_run ⟨#[126]⟩ ⟨#[]⟩ (by decide) (by decide) hR)
  clear hR
  go_wp2_with fail
  go_at_call 11
  refine C.out.mono ?_
  rintro e w4 ⟨rfl, hR⟩
  clear C
  have C : Hid (∀ W, Run w.heap.size w (w.heap.size + 1) exS W → Calls Tryz.prog 45 #[.pointer (some ⟨w.heap.size + 1, 0, none⟩)] W (Tells W 1 (strV [[97]]))) := Lib.hid fun W h => names_run h
  go_wp2_with fail
  go_at_call 45
  refine (C.out _ hR).mono ?_
  rintro e w5 ⟨A, c, rfl, h1, h2, hL, hB⟩
  have hR5 := hR.move hB
  have hz := hR5.size
  have HZ := Lib.hid hR5.below
  have C2 := Lib.hid (names_one A c 1 _ _ (w5.alloc (.cells #[.string ⟨#[97]⟩] 9)) w5.heap.size [97] (hL.below (up_alloc w5)) (by simp) (At.new w5 9 #[.string ⟨#[97]⟩]))
  clear C hL hR hR5 hB h2
  go_wp2_with fail
  go_at_call 46
  refine C2.out.mono ?_
  rintro e w6 ⟨rfl, hB6⟩
  have HE : Below w.heap.size w w6 := (HZ.out.alloc hz _).trans (hB6.mono (by simp; omega))
  clear C2 hB6 HZ
  go_wp2
  go_ret
  exact ⟨rfl, HE⟩
end
end Go.Proofs.YtlbhegicapggeaaGreat.sav
