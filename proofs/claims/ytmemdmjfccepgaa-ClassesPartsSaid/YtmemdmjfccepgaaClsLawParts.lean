/- ClassesParts: for every byte. -/
import Derived.Test.YtmemdmjfccepgaaClsParts1
import Derived.Test.YtmemdmjfccepgaaClsParts2
import Derived.Test.YtmemdmjfccepgaaClsParts3
import Derived.Test.YtmemdmjfccepgaaClsParts4
import Derived.Test.YtmemdmjfccepgaaClsParts5
import Derived.Test.YtmemdmjfccepgaaClsParts6
import Derived.Test.YtmemdmjfccepgaaClsParts7
import Derived.Test.YtmemdmjfccepgaaClsParts8
import Derived.Test.YtmemdmjfccepgaaClsParts9
import Derived.Test.YtmemdmjfccepgaaClsParts10
import Derived.Test.YtmemdmjfccepgaaClsParts11
namespace Go.Proofs.Ytmemdmjfccepgaa.cls
open Go.RowKit Go.Lib
theorem law8 (c : Nat) (w : World) (hc : c < 256) (hV : Vs w.heap.size w) :
    Calls Try.prog 8 #[.int .u8 (c : Int)] w fun e w' => e = .returned (.bool true) ∧ Below w.heap.size w w' := by
  have hd : (c ≤ 8 ∨ (14 ≤ c ∧ c ≤ 31) ∨ c = 127) ∨ (9 ≤ c ∧ c ≤ 9) ∨ (10 ≤ c ∧ c ≤ 13) ∨ (32 ≤ c ∧ c ≤ 32) ∨ ((33 ≤ c ∧ c ≤ 47) ∨ (58 ≤ c ∧ c ≤ 64) ∨ (91 ≤ c ∧ c ≤ 96) ∨ (123 ≤ c ∧ c ≤ 126)) ∨ (48 ≤ c ∧ c ≤ 57) ∨ (65 ≤ c ∧ c ≤ 70) ∨ (71 ≤ c ∧ c ≤ 90) ∨ (97 ≤ c ∧ c ≤ 102) ∨ (103 ≤ c ∧ c ≤ 122) ∨ (128 ≤ c ∧ c ≤ 255) := by omega
  rcases hd with h | h | h | h | h | h | h | h | h | h | h
  · exact parts8_0 c h w hV
  · exact parts8_1 c h w hV
  · exact parts8_2 c h w hV
  · exact parts8_3 c h w hV
  · exact parts8_4 c h w hV
  · exact parts8_5 c h w hV
  · exact parts8_6 c h w hV
  · exact parts8_7 c h w hV
  · exact parts8_8 c h w hV
  · exact parts8_9 c h w hV
  · exact parts8_10 c h w hV
end Go.Proofs.Ytmemdmjfccepgaa.cls
