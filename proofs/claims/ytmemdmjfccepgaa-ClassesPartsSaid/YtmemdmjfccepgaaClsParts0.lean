/- ClassesParts: a byte asked of a class by its name. -/
import Derived.Test.YtmemdmjfccepgaaClsDoes2
namespace Go.Proofs.Ytmemdmjfccepgaa.cls
open Go.RowKit Go.Lib
set_option linter.unusedVariables false
set_option linter.unusedSimpArgs false
set_option linter.unnecessarySimpa false
set_option linter.unusedSectionVars false

set_option maxHeartbeats 1000000 in
set_option maxRecDepth 100000 in
theorem inF (w : World) (l : List UInt8) (f : Nat → Bool) (b : Bool) (p c : Nat) (hl : l.length ≤ 1000000000) (hf : clsOf l = some f) (hb : f c = b) (hc : c < 256) (h : w.cell? ⟨p, 0, none⟩ = some (.int .u8 (c : Int))) (hp : p < w.heap.size) :
    Calls Try.prog 16 #[.string (B l), .pointer (some ⟨p, 0, none⟩)] w fun e w' => e = .returned (.bool b) ∧ Below w.heap.size w w' := by
  have C := Lib.hid (class_b l f true (by simp [clsG, hf]) (by rw [hf]; rfl) w hl)
  have H := Lib.hid (And.intro h hp)
  have HB := Lib.hid hb
  clear h hp hf hb hl
  go_enter Try.func16, Try.ntmps16
  go_wp2_with fail
  go_at_call 13
  refine C.out.mono ?_
  rintro e w2 ⟨rfl, hb2⟩
  have HB2 := Lib.hid hb2
  clear hb2
  go_wp2_with (first | (refine wpList_allocA rfl rfl ?_; intro w3 hs3 ha3 hb3) | (refine wpList_storeA rfl _ _ rfl _ _ rfl rfl _ ha3 ?_; intro w4 ha4 hb4; have hB4 : Below w.heap.size w w4 := HB2.out.trans ((hb3.mono HB2.out.size).trans (hb4.below HB2.out.size)); have k0 := (hB4.cell (p := ⟨p, 0, none⟩) H.out.2).trans H.out.1; have k1 := ha4.cell hc; rw [HB.out] at k1))
  go_ret
  exact ⟨rfl, hB4⟩

/-- What stands while the law goes on: the blocks up to the variable that was captured. -/
theorem inK (l : List UInt8) (f : Nat → Bool) (b : Bool) (p c : Nat) (w1 : World) (hl : l.length ≤ 1000000000) (hf : clsOf l = some f) (hb : f c = b) (hc : c < 256) (h : w1.cell? ⟨p, 0, none⟩ = some (.int .u8 (c : Int))) (hp : p < w1.heap.size) :
    ∀ W, Below w1.heap.size w1 W → Calls Try.prog 16 #[.string (B l), .pointer (some ⟨p, 0, none⟩)] W fun e w' => e = .returned (.bool b) ∧ Below w1.heap.size w1 w' :=
  fun W hW => (inF W l f b p c hl hf hb hc ((hW.cell (p := ⟨p, 0, none⟩) hp).trans h) (Nat.lt_of_lt_of_le hp hW.size)).mono fun e w' ⟨he, hB⟩ => ⟨he, hW.trans (hB.mono hW.size)⟩
end Go.Proofs.Ytmemdmjfccepgaa.cls
