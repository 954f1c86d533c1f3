/- The document's answer on classes: whether a byte is in a class. -/
import Derived.Test.YtmemdmjfccepgaaClsClass
namespace Go.Proofs.Ytmemdmjfccepgaa.cls
open Go.RowKit Go.Lib
set_option linter.unusedVariables false
set_option linter.unusedSimpArgs false
set_option linter.unnecessarySimpa false
set_option linter.unusedSectionVars false

set_option maxHeartbeats 4000000 in
set_option maxRecDepth 100000 in
theorem in_nBlank (c : Nat) (hc : c < 256) (w : World) :
    Calls Try.prog 24 #[.string (B nBlank), .int .u8 (c : Int)] w fun e w' => e = .returned (.tuple #[.bool (fBlank c), .bool true]) ∧ w' = w := by
  obtain ⟨R, hR⟩ : ∃ R, fBlank c = R := ⟨_, rfl⟩
  rw [hR]
  have H := Lib.hid hR
  clear hR
  have hd : (0 ≤ c ∧ c ≤ 8) ∨ (9 ≤ c ∧ c ≤ 9) ∨ (10 ≤ c ∧ c ≤ 31) ∨ (32 ≤ c ∧ c ≤ 32) ∨ (33 ≤ c ∧ c ≤ 47) ∨ (48 ≤ c ∧ c ≤ 57) ∨ (58 ≤ c ∧ c ≤ 64) ∨ (65 ≤ c ∧ c ≤ 90) ∨ (91 ≤ c ∧ c ≤ 96) ∨ (97 ≤ c ∧ c ≤ 122) ∨ (123 ≤ c ∧ c ≤ 126) ∨ (127 ≤ c ∧ c ≤ 255) := by omega
  rcases hd with ⟨h1, h2⟩ | ⟨h1, h2⟩ | ⟨h1, h2⟩ | ⟨h1, h2⟩ | ⟨h1, h2⟩ | ⟨h1, h2⟩ | ⟨h1, h2⟩ | ⟨h1, h2⟩ | ⟨h1, h2⟩ | ⟨h1, h2⟩ | ⟨h1, h2⟩ | ⟨h1, h2⟩ <;>
  · go_enter Try.func24, Try.ntmps24
    go_wp2
    go_ret2
    refine ⟨in_ret ?_, rfl⟩
    rw [← H.out]
    clear H
    apply Bool.eq_iff_iff.2
    simp [fBlank, fPunct, fAlnum, fAlpha, fLower, fUpper, fDigit, fGraph, btw, or2]
    try omega

set_option maxHeartbeats 4000000 in
set_option maxRecDepth 100000 in
theorem in_nCntrl (c : Nat) (hc : c < 256) (w : World) :
    Calls Try.prog 24 #[.string (B nCntrl), .int .u8 (c : Int)] w fun e w' => e = .returned (.tuple #[.bool (fCntrl c), .bool true]) ∧ w' = w := by
  obtain ⟨R, hR⟩ : ∃ R, fCntrl c = R := ⟨_, rfl⟩
  rw [hR]
  have H := Lib.hid hR
  clear hR
  have hd : (0 ≤ c ∧ c ≤ 31) ∨ (32 ≤ c ∧ c ≤ 32) ∨ (33 ≤ c ∧ c ≤ 47) ∨ (48 ≤ c ∧ c ≤ 57) ∨ (58 ≤ c ∧ c ≤ 64) ∨ (65 ≤ c ∧ c ≤ 90) ∨ (91 ≤ c ∧ c ≤ 96) ∨ (97 ≤ c ∧ c ≤ 122) ∨ (123 ≤ c ∧ c ≤ 126) ∨ (127 ≤ c ∧ c ≤ 127) ∨ (128 ≤ c ∧ c ≤ 255) := by omega
  rcases hd with ⟨h1, h2⟩ | ⟨h1, h2⟩ | ⟨h1, h2⟩ | ⟨h1, h2⟩ | ⟨h1, h2⟩ | ⟨h1, h2⟩ | ⟨h1, h2⟩ | ⟨h1, h2⟩ | ⟨h1, h2⟩ | ⟨h1, h2⟩ | ⟨h1, h2⟩ <;>
  · go_enter Try.func24, Try.ntmps24
    go_wp2
    go_ret2
    refine ⟨in_ret ?_, rfl⟩
    rw [← H.out]
    clear H
    apply Bool.eq_iff_iff.2
    simp [fCntrl, fPunct, fAlnum, fAlpha, fLower, fUpper, fDigit, fGraph, btw, or2]
    try omega

end Go.Proofs.Ytmemdmjfccepgaa.cls
