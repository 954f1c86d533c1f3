/- A piece of a list of texts: its head, its tail. -/
import Derived.Test.YtljpclfeogiohaaGreatDoorFrmLawWalk
namespace Go.Proofs.YtljpclfeogiohaaGreatDoor.frm
open Go.RowKit Go.Lib

theorem size9 (W : World) : (Go.sizeOf 9).run Tryz.prog W = .ok 1 W := by kernel_rfl
theorem elemStr : Tryz.prog.elem 29 = 9 := by kernel_rfl
theorem add_zero_addr (a : Addr) : a.add 0 = a := by cases a; rfl
theorem head_slice (A : Option Addr) (n c m : Nat) (h : m ≤ c) (W : World) :
    (Instr.slice 29 (.slice A n c) none (some (.int .i64 (m : Int))) none).run Tryz.prog W = .ok (.slice A m c) W := by
  have hu : Tryz.prog.underlying 29 = some (.slice (Tryz.prog.elem 29)) := by rw [elemStr]; exact Tryz.underlying29
  rw [run_slice_h (P := Tryz.prog) W 29 A n c hu .i64 (m : Int) (by omega) (by omega), elemStr, size9]
  simp only [Result.andThen, sliced, Int.toNat_natCast]
  cases A with
  | none => simp
  | some a => simp [add_zero_addr]
/-- Where a tail lies. -/
def tailA (A : Option Addr) (c m : Nat) : Option Addr := if c = m then A else A.map (·.add (m * 1))
theorem tail_slice (A : Option Addr) (n c m k : Nat) (h : n = m + k) (W : World) :
    (Instr.slice 29 (.slice A n c) (some (.int .i64 (m : Int))) none none).run Tryz.prog W = .ok (.slice (tailA A c m) k (c - m)) W := by
  have hu : Tryz.prog.underlying 29 = some (.slice (Tryz.prog.elem 29)) := by rw [elemStr]; exact Tryz.underlying29
  rw [run_slice_l (P := Tryz.prog) W 29 A n c hu .i64 (m : Int) (by omega) (by omega), elemStr, size9]
  simp only [Result.andThen, sliced, Int.toNat_natCast, tailA]
  rw [show n - m = k by omega]
theorem SRd.head {w : World} {n₀ : Nat} {A : Option Addr} {xs ys : List ByteArray} (h : SRd w n₀ A (xs ++ ys)) : SRd w n₀ A xs := fun hn => by
  obtain ⟨b, off, e, hb, hc⟩ := h (by rw [List.length_append]; omega)
  refine ⟨b, off, e, hb, fun j hj => ?_⟩
  rw [hc j (by rw [List.length_append]; omega)]
  simp [List.getD, List.getElem?_append_left hj]
theorem SRd.tail {w : World} {n₀ : Nat} {A : Option Addr} {xs ys : List ByteArray} {c m : Nat} (h : SRd w n₀ A (xs ++ ys)) (hm : m = xs.length) (hc : (xs ++ ys).length ≤ c) : SRd w n₀ (tailA A c m) ys := fun hn => by
  rw [List.length_append] at hc
  obtain ⟨b, off, rfl, hb, hcell⟩ := h (by rw [List.length_append]; omega)
  unfold tailA
  rw [if_neg (by omega)]
  refine ⟨b, off + m, by simp [Addr.add], hb, fun j hj => ?_⟩
  have := hcell (m + j) (by rw [List.length_append]; omega)
  rw [← Nat.add_assoc] at this
  rw [this]
  simp [List.getD, hm, List.getElem?_append_right]
end Go.Proofs.YtljpclfeogiohaaGreatDoor.frm
