/- The document's answer on classes: whether a byte is in a class. -/
import Derived.Test.YtmemdmjfccepgaaClsClass
namespace Go.Proofs.Ytmemdmjfccepgaa.cls
open Go.RowKit Go.Lib
set_option linter.unusedVariables false
set_option linter.unusedSimpArgs false
set_option linter.unnecessarySimpa false
set_option linter.unusedSectionVars false

set_option maxHeartbeats 4000000 in
set_option maxRecDepth 100000 in
theorem in_none (l : List UInt8) (c : Nat) (hc : c < 256) (w : World) (hl : ∀ p ∈ clsT, l ≠ p.1) :
    Calls Try.prog 24 #[.string (B l), .int .u8 (c : Int)] w fun e w' => e = .returned (.tuple #[.bool false, .bool false]) ∧ w' = w := by
  have n0 := hl _ (show (nLower, fLower) ∈ clsT by simp [clsT])
  have n1 := hl _ (show (nUpper, fUpper) ∈ clsT by simp [clsT])
  have n2 := hl _ (show (nAlpha, fAlpha) ∈ clsT by simp [clsT])
  have n3 := hl _ (show (nDigit, fDigit) ∈ clsT by simp [clsT])
  have n4 := hl _ (show (nAlnum, fAlnum) ∈ clsT by simp [clsT])
  have n5 := hl _ (show (nXdigit, fXdigit) ∈ clsT by simp [clsT])
  have n6 := hl _ (show (nSpace, fSpace) ∈ clsT by simp [clsT])
  have n7 := hl _ (show (nBlank, fBlank) ∈ clsT by simp [clsT])
  have n8 := hl _ (show (nCntrl, fCntrl) ∈ clsT by simp [clsT])
  have n9 := hl _ (show (nGraph, fGraph) ∈ clsT by simp [clsT])
  have n10 := hl _ (show (nPrint, fPrint) ∈ clsT by simp [clsT])
  have n11 := hl _ (show (nPunct, fPunct) ∈ clsT by simp [clsT])
  clear hl
  have m0 : (l == [108, 111, 119, 101, 114]) = false := by simpa using n0
  have p0 : ¬ l = [108, 111, 119, 101, 114] := n0
  have m1 : (l == [117, 112, 112, 101, 114]) = false := by simpa using n1
  have p1 : ¬ l = [117, 112, 112, 101, 114] := n1
  have m2 : (l == [97, 108, 112, 104, 97]) = false := by simpa using n2
  have p2 : ¬ l = [97, 108, 112, 104, 97] := n2
  have m3 : (l == [100, 105, 103, 105, 116]) = false := by simpa using n3
  have p3 : ¬ l = [100, 105, 103, 105, 116] := n3
  have m4 : (l == [97, 108, 110, 117, 109]) = false := by simpa using n4
  have p4 : ¬ l = [97, 108, 110, 117, 109] := n4
  have m5 : (l == [120, 100, 105, 103, 105, 116]) = false := by simpa using n5
  have p5 : ¬ l = [120, 100, 105, 103, 105, 116] := n5
  have m6 : (l == [115, 112, 97, 99, 101]) = false := by simpa using n6
  have p6 : ¬ l = [115, 112, 97, 99, 101] := n6
  have m7 : (l == [98, 108, 97, 110, 107]) = false := by simpa using n7
  have p7 : ¬ l = [98, 108, 97, 110, 107] := n7
  have m8 : (l == [99, 110, 116, 114, 108]) = false := by simpa using n8
  have p8 : ¬ l = [99, 110, 116, 114, 108] := n8
  have m9 : (l == [103, 114, 97, 112, 104]) = false := by simpa using n9
  have p9 : ¬ l = [103, 114, 97, 112, 104] := n9
  have m10 : (l == [112, 114, 105, 110, 116]) = false := by simpa using n10
  have p10 : ¬ l = [112, 114, 105, 110, 116] := n10
  have m11 : (l == [112, 117, 110, 99, 116]) = false := by simpa using n11
  have p11 : ¬ l = [112, 117, 110, 99, 116] := n11
  clear n0 n1 n2 n3 n4 n5 n6 n7 n8 n9 n10 n11
  have hd : (0 ≤ c ∧ c ≤ 32) ∨ (33 ≤ c ∧ c ≤ 47) ∨ (48 ≤ c ∧ c ≤ 57) ∨ (58 ≤ c ∧ c ≤ 64) ∨ (65 ≤ c ∧ c ≤ 90) ∨ (91 ≤ c ∧ c ≤ 96) ∨ (97 ≤ c ∧ c ≤ 122) ∨ (123 ≤ c ∧ c ≤ 126) ∨ (127 ≤ c ∧ c ≤ 255) := by omega
  rcases hd with ⟨h1, h2⟩ | ⟨h1, h2⟩ | ⟨h1, h2⟩ | ⟨h1, h2⟩ | ⟨h1, h2⟩ | ⟨h1, h2⟩ | ⟨h1, h2⟩ | ⟨h1, h2⟩ | ⟨h1, h2⟩ <;>
  · go_enter Try.func24, Try.ntmps24
    go_wp2
    go_ret2
    exact ⟨rfl, rfl⟩
end Go.Proofs.Ytmemdmjfccepgaa.cls
