/- lines.Join: all lines, each with a byte 10 behind it. -/
import Derived.Test.YtakckmelojobkaaGreatDoorBuilder
import Derived.Test.YtakckmelojobkaaGreatDoorGreat
namespace Go.Proofs.YtakckmelojobkaaGreatDoor
open Go.RowKit Go.Shelf Go.Lib

theorem tot_take_le (zs : List ByteArray) (k : Nat) : tot (zs.take k) ≤ tot zs := by
  unfold tot
  conv => rhs; rw [← List.take_append_drop k zs]
  rw [List.map_append, List.sum_append]; omega
theorem size_le_tot {zs : List ByteArray} {k : Nat} (h : k < zs.length) : (zs.getD k ByteArray.empty).size ≤ tot zs := by
  have := tot_take zs k h; have := tot_take_le zs (k + 1); omega

def bytesOf (zs : List ByteArray) : List (List UInt8) := zs.map (·.data.toList)
theorem join_take (zs : List ByteArray) (k : Nat) (h : k < zs.length) : joinL (bytesOf (zs.take (k + 1))) = joinL (bytesOf (zs.take k)) ++ (zs.getD k ByteArray.empty).data.toList ++ [10] := by
  have e : zs.getD k ByteArray.empty = zs[k] := by simp [List.getD, List.getElem?_eq_getElem h]
  unfold bytesOf
  rw [e, List.take_succ_eq_append_getElem h, List.map_append, List.map_cons, List.map_nil, joinL_snoc]
theorem join_len (zs : List ByteArray) : (joinL (bytesOf zs)).length = tot zs + zs.length := by
  induction zs with
  | nil => rfl
  | cons z r ih =>
    have e0 : z.data.toList.length = z.size := by rw [Array.length_toList]; rfl
    have e1 : tot (z :: r) = z.size + tot r := by simp [tot]
    have e2 : joinL (bytesOf (z :: r)) = z.data.toList ++ 10 :: joinL (bytesOf r) := rfl
    rw [e1, e2, List.length_append, List.length_cons, List.length_cons, ih, e0]; omega
theorem byteCells_str (l : List UInt8) (s : ByteArray) : Lib.byteCells l ++ Lib.strCells s = Lib.byteCells (l ++ s.data.toList) := by
  simp [Lib.byteCells, Lib.strCells]

end Go.Proofs.YtakckmelojobkaaGreatDoor
