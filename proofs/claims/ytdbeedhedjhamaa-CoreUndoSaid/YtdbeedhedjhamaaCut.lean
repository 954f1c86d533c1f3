/- strings.Index, strings.Contains and strings.Cut at a text of one byte. -/
import Derived.Test.YtdbeedhedjhamaaWords
import Derived.Test.YtdbeedhedjhamaaShelf
import Derived.Lib.Strings
import Derived.Lib.Slices
import Derived.Lib.Walk
import Derived.Lib.Bytealg
import Derived.Lib.IndexLaws
import Derived.Lib.IndexBytes
namespace Go.Proofs.Ytdbeedhedjhamaa
open Go.RowKit Go.Lib

theorem index43 (s : ByteArray) (c : UInt8) (w : World) :
    Calls Try.prog 70 #[.string s, .string ⟨#[c]⟩] w fun e w' => e = .returned (.int .i64 (Lib.indexByte s.data.toList c)) ∧ w' = w := Try.stringslite_Index_one s c w
theorem contains38 (s : ByteArray) (c : UInt8) (w : World) :
    Calls Try.prog 66 #[.string s, .string ⟨#[c]⟩] w fun e w' => e = .returned (.bool (decide (0 ≤ Lib.indexByte s.data.toList c))) ∧ w' = w := Try.strings_Contains_one s c w

theorem extract_B (s : ByteArray) (a b : Nat) : s.extract a b = B ((s.data.toList.drop a).take (b - a)) := by rw [← Lib.extract_data, B_list]
theorem extract_end (s : ByteArray) (a : Nat) : s.extract a s.size = B (s.data.toList.drop a) := by rw [← Lib.extract_to_end, B_list]
theorem index_cases (l : List UInt8) (c : UInt8) : Lib.indexByte l c = -1 ∨ ∃ o : Nat, o < l.length ∧ Lib.indexByte l c = o := by
  have h := Lib.indexByte_ge l c
  by_cases h1 : Lib.indexByte l c = -1
  · exact .inl h1
  · right
    obtain ⟨o, ho⟩ : ∃ o : Nat, Lib.indexByte l c = o := ⟨(Lib.indexByte l c).toNat, by omega⟩
    refine ⟨o, ?_, ho⟩
    have := (Lib.indexByte_some ho).1
    exact (List.getElem?_eq_some_iff.1 this).1

end Go.Proofs.Ytdbeedhedjhamaa
