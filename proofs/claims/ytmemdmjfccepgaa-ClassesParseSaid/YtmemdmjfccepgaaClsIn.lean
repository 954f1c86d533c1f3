/- The document's answer on classes: whether a byte is in a class. -/
import Derived.Test.YtmemdmjfccepgaaClsIn1
import Derived.Test.YtmemdmjfccepgaaClsIn2
import Derived.Test.YtmemdmjfccepgaaClsIn3
import Derived.Test.YtmemdmjfccepgaaClsIn4
import Derived.Test.YtmemdmjfccepgaaClsIn5
import Derived.Test.YtmemdmjfccepgaaClsIn6
import Derived.Test.YtmemdmjfccepgaaClsIn7
namespace Go.Proofs.Ytmemdmjfccepgaa.cls
open Go.RowKit Go.Lib
set_option linter.unusedVariables false
set_option linter.unusedSimpArgs false
set_option linter.unnecessarySimpa false
set_option linter.unusedSectionVars false

/-- Is a byte in a class, and is there one? -/
theorem in_is (l : List UInt8) (c : Nat) (hc : c < 256) (w : World) :
    Calls Try.prog 24 #[.string (B l), .int .u8 (c : Int)] w fun e w' => e = .returned (.tuple #[.bool (clsG l c), .bool (clsOf l).isSome]) ∧ w' = w := by
  rcases clsOf_cases l with ⟨k, f, hm, rfl, hf⟩ | ⟨hn, hall⟩
  · have e1 : clsG l = f := by simp [clsG, hf]
    rw [e1, hf]
    simp only [clsT, List.mem_cons, List.not_mem_nil, or_false, Prod.mk.injEq] at hm
    rcases hm with ⟨rfl, rfl⟩ | ⟨rfl, rfl⟩ | ⟨rfl, rfl⟩ | ⟨rfl, rfl⟩ | ⟨rfl, rfl⟩ | ⟨rfl, rfl⟩ | ⟨rfl, rfl⟩ | ⟨rfl, rfl⟩ | ⟨rfl, rfl⟩ | ⟨rfl, rfl⟩ | ⟨rfl, rfl⟩ | ⟨rfl, rfl⟩
    · exact in_nLower c hc w
    · exact in_nUpper c hc w
    · exact in_nAlpha c hc w
    · exact in_nDigit c hc w
    · exact in_nAlnum c hc w
    · exact in_nXdigit c hc w
    · exact in_nSpace c hc w
    · exact in_nBlank c hc w
    · exact in_nCntrl c hc w
    · exact in_nGraph c hc w
    · exact in_nPrint c hc w
    · exact in_nPunct c hc w
  · have e1 : clsG l = noB := by simp [clsG, hn]
    rw [e1, hn]
    exact in_none l c hc w hall
end Go.Proofs.Ytmemdmjfccepgaa.cls
