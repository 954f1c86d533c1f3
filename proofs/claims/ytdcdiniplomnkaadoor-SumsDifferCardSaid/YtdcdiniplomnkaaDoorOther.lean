/- A text whose byte at p is another one. -/
import Derived.Test.YtdcdiniplomnkaaDoorHex
namespace Go.Proofs.YtdcdiniplomnkaaDoor
open Go.RowKit Go.Lib

abbrev other (s : ByteArray) (p : Nat) (b : UInt8) : ByteArray := s.extract 0 p ++ ⟨#[b]⟩ ++ s.extract (p + 1) s.size
theorem other_list (s : ByteArray) (p : Nat) (b : UInt8) : (other s p b).data.toList = s.data.toList.take p ++ b :: s.data.toList.drop (p + 1) := by
  have e1 : (s.extract 0 p).data.toList = s.data.toList.take p := by simp [List.extract_eq_take_drop]
  have e2 : (s.extract (p + 1) s.size).data.toList = s.data.toList.drop (p + 1) := by
    rw [ByteArray.data_extract, Array.toList_extract, List.extract_eq_take_drop, List.take_of_length_le]
    rw [List.length_drop, size_list]; exact Nat.le_refl _
  rw [other, ByteArray.data_append, Array.toList_append, ByteArray.data_append, Array.toList_append, e1, e2]
  simp
theorem other_size (s : ByteArray) (p : Nat) (b : UInt8) (h : p < s.size) : (other s p b).size = s.size := by
  rw [← size_list (other s p b), other_list, List.length_append, List.length_cons, List.length_take, List.length_drop, size_list]; omega
theorem same_list (s : ByteArray) (p : Nat) (h : p < s.size) : s.data.toList = s.data.toList.take p ++ s[p] :: s.data.toList.drop (p + 1) := by
  have hl : p < s.data.toList.length := by simpa using h
  have e : s[p] = s.data.toList[p] := rfl
  rw [e, ← List.drop_eq_getElem_cons hl, List.take_append_drop]
/-- What the two sums are to one another. -/
theorem other_sum (s : ByteArray) (p : Nat) (b : UInt8) (h : p < s.size) :
    ((sumN (other s p b).data.toList : Nat) : Int) = ((sumN s.data.toList / 65536 : Nat) + (((b.toNat : Int) - (s[p]).toNat) * ((s.size : Int) - p)).tmod 65535 + 65535) % 65535 * 65536 + ((sumN s.data.toList % 65536 : Nat) + ((b.toNat : Int) - (s[p]).toNat) + 65535) % 65535
    ∧ (sumN (other s p b).data.toList = sumN s.data.toList ↔ (b.toNat : Int) - (s[p]).toNat = 0) := by
  have e1 := w1_differ (s.data.toList.take p) (s.data.toList.drop (p + 1)) s[p] b
  have e2 := w2_differ (s.data.toList.take p) (s.data.toList.drop (p + 1)) s[p] b
  rw [← other_list, ← same_list s p h] at e1 e2
  have el : ((s.data.toList.drop (p + 1)).length : Int) + 1 = (s.size : Int) - p := by rw [List.length_drop, size_list]; omega
  rw [el] at e2
  have hb := b.toNat_lt
  have hc := (s[p]).toNat_lt
  unfold sumN
  refine ⟨differ_num _ _ _ _ _ _ e1 e2, differ_same _ _ _ _ _ e1 (by omega) (by omega) fun hd => ?_⟩
  rw [hd, Int.zero_mul] at e2
  omega
end Go.Proofs.YtdcdiniplomnkaaDoor
