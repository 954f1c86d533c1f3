/- strconv.FormatUint to the base 16, of a number of 32 bits. -/
import Derived.Test.YtljpclfeogiohaaGreatDoorSumRefHex
import Derived.Laws.NewBlocks
import Derived.Laws.IdiomStrings
import Derived.Lib.ItoaMem
namespace Go.Proofs.YtljpclfeogiohaaGreatDoor.sum
open Go.RowKit Go.Lib

/-- What is read of the library's variables: one cell of a table. -/
def Vars (n : Nat) (w : World) : Prop := 6 < n ∧ w.cell? ⟨6, 15, none⟩ = some (.int .u8 4)
theorem Vars.below {n : Nat} {w w' : World} (h : Vars n w) (hB : Below n w w') : Vars n w' := ⟨h.1, (hB.cell (p := ⟨6, 15, none⟩) (by have := h.1; show 6 < n; omega)).trans h.2⟩
theorem Vars.more {n m : Nat} {w : World} (h : Vars n w) (hm : n ≤ m) : Vars m w := ⟨by have := h.1; omega, h.2⟩
theorem Vars.next {w w' : World} (h : Vars w.heap.size w) (hB : Below w.heap.size w w') : Vars w'.heap.size w' := (h.below hB).more hB.size

theorem key51 : IntKind.u64.wrap (bits BinOp.and IntKind.u64 16 (IntKind.u64.wrap (-16)) * 285870213051353865) / 288230376151711744 = 15 := by kernel_rfl
theorem and46 : (bits BinOp.and IntKind.i64 16 15 == 0) = true := by kernel_rfl
theorem tz51 (w : World) (h : w.cell? ⟨6, 15, none⟩ = some (.int .u8 4)) :
    Calls Tryz.prog 84 #[.int .u64 16] w fun e w' => e = .returned (.int .i64 4) ∧ w = w' := by
  go_enter Tryz.func84, Tryz.ntmps84
  go_wp2_with (simp only [key51])
  go_ret
  exact ⟨rfl, rfl⟩
theorem tz47 (w : World) (h : w.cell? ⟨6, 15, none⟩ = some (.int .u8 4)) :
    Calls Tryz.prog 76 #[.int .u64 16] w fun e w' => e = .returned (.int .i64 4) ∧ w = w' := by
  go_enter Tryz.func76, Tryz.ntmps76
  go_wp2_with (go_at_call 84; refine (tz51 w h).mono ?_; rintro e w' ⟨rfl, rfl⟩)
  go_ret
  exact ⟨rfl, rfl⟩
theorem two46 (w : World) : Calls Tryz.prog 75 #[.int .i64 16] w fun e w' => e = .returned (.bool true) ∧ w = w' := by
  go_enter Tryz.func75, Tryz.ntmps75
  go_wp2
  go_ret
  exact ⟨ret_bool and46, rfl⟩

theorem mask15 (a : Nat) (ha : a < 18446744073709551616) : bits BinOp.and IntKind.u64 (a : Int) 15 = ((a % 16 : Nat) : Int) := by
  have h := bits_and_u64_nat a 15 ha (by omega)
  have e : a &&& 15 = a % 16 := Nat.and_two_pow_sub_one_eq_mod a 4
  rw [e] at h
  exact h

/-- The array: so many noughts, then what has been written, to its end. -/
def rowOf (n : Nat) (l : List UInt8) : Array Value := (List.replicate n (Value.int .u8 0) ++ l.map fun c => Value.int .u8 (c.toNat : Int)).toArray

theorem row_at (m : Nat) (l : List UInt8) (h : 1 ≤ m) : (rowOf m l)[m - 1]? = some (.int .u8 0) := by
  unfold rowOf
  rw [List.getElem?_toArray, List.getElem?_append_left (by simp; omega), List.getElem?_replicate, if_pos (by omega)]
theorem row_set (m : Nat) (l : List UInt8) (c : UInt8) (h : 1 ≤ m) : (rowOf m l).setIfInBounds (m - 1) (.int .u8 (c.toNat : Int)) = rowOf (m - 1) (c :: l) := by
  unfold rowOf
  obtain ⟨n, rfl⟩ : ∃ n, m = n + 1 := ⟨m - 1, by omega⟩
  rw [List.setIfInBounds_toArray, Nat.add_sub_cancel, List.replicate_succ', List.append_assoc, List.set_append_right _ _ (by simp)]
  simp
theorem row_tail (m : Nat) (l : List UInt8) (j : Nat) (h : j < l.length) : (rowOf m l)[m + j]? = some (.int .u8 (l[j].toNat : Int)) := by
  unfold rowOf
  rw [List.getElem?_toArray, List.getElem?_append_right (by simp)]
  simp [List.getElem?_eq_getElem h]
abbrev table36 : ByteArray := ⟨#[48, 49, 50, 51, 52, 53, 54, 55, 56, 57, 97, 98, 99, 100, 101, 102, 103, 104, 105, 106, 107, 108, 109, 110, 111, 112, 113, 114, 115, 116, 117, 118, 119, 120, 121, 122]⟩
theorem t36 (v : Nat) (h : v < 16) (hw : v < table36.size) : table36[v]'hw = hexD v := by
  have key : ∀ k : Fin 16, table36[k.val]'(Nat.lt_of_lt_of_le k.isLt (by decide)) = hexD k := by decide
  exact key ⟨v, h⟩
theorem slice74 (b m : Nat) (hm : m < 65) (W : World) : (Instr.sliceAt 119 (.pointer (some ⟨b, 0, none⟩)) (some (.int .i64 (m : Int))) none none).run Tryz.prog W = .ok (.slice (some ⟨b, m, none⟩) (65 - m) (65 - m)) W := by
  have hal : Tryz.prog.arrayLen 119 = 65 := by kernel_rfl
  have hel : Tryz.prog.elem 119 = 5 := by kernel_rfl
  rw [run_sliceAt_array_l W 119 ⟨b, 0, none⟩ (by simp [Program.arrayLen, Program.elem, Tryz.underlying119]) .i64 (m : Int) (by omega) (by rw [hal]; omega)]
  go_simp
  omega
theorem conv_row (w : World) (m : Nat) (l : List UInt8) (c : Nat) : (convert 40 9 (.slice (some ⟨w.heap.size, m, none⟩) l.length c)).run Tryz.prog (w.alloc (.cells (rowOf m l) 119)) = .ok (.string (B l)) (w.alloc (.cells (rowOf m l) 119)) :=
  run_convert_bytes_back (P := Tryz.prog) _ 40 9 5 ⟨w.heap.size, m, none⟩ c l Tryz.underlying40 Tryz.underlying5 Tryz.underlying9 (fun j hj => by
    rw [Lib.add_plain, World.cell?_alloc_new]
    exact row_tail m l j hj)
theorem lt_pow (x k : Nat) (h : x / 16 ^ k < 16) : x < 16 ^ (k + 1) := by
  rw [Nat.pow_succ, Nat.mul_comm]
  exact (Nat.div_lt_iff_lt_mul (Nat.pow_pos (by decide))).1 h
theorem a74 (w : World) : (isAgg 119).run Tryz.prog w = .ok true w := by kernel_rfl
theorem z74 (w : World) : (Go.sizeOf 119).run Tryz.prog w = .ok 65 w := by kernel_rfl
theorem v74 (w : World) : (zeroValue 119).run Tryz.prog w = .ok (.agg (rowOf 65 [])) w := by kernel_rfl

set_option maxHeartbeats 4000000 in
set_option maxRecDepth 100000 in
theorem bits37 (x : Nat) (w : World) (hx : x < 4294967296) (hV : Vars w.heap.size w) :
    Calls Tryz.prog 63 #[.slice none 0 0, .int .u64 x, .int .i64 16, .bool false, .bool false] w fun e w' => ∃ n, 1 ≤ n ∧ n ≤ 8 ∧ x < 16 ^ n ∧ e = .returned (.tuple #[.slice none 0 0, .string (B (digs n x))]) ∧ Below w.heap.size w w' := by
  have hc := hV.2
  have h4 := hV.1
  have a74 := a74
  have z74 := z74
  have v74 := v74
  go_enter Tryz.func63, Tryz.ntmps63
  go_wp2_with fail
  go_at_call 75
  refine (two46 _).mono ?_
  rintro e w' ⟨rfl, rfl⟩
  go_wp2_with fail
  go_at_call 76
  refine (tz47 _ ?_).mono ?_
  · rw [World.cell?_alloc_lt _ _ _ (by show 6 < w.heap.size; omega)]; exact hc
  rintro e w' ⟨rfl, rfl⟩
  clear a74 z74 v74
  go_wp2_with fail
  go_loopw [1, 13] (fun u i wr => ∃ k v m : Nat, k ≤ 7 ∧ m + k = 65 ∧ u = .int .u64 v ∧ i = .int .i64 m ∧ v = x / 16 ^ k ∧ wr = w.alloc (.cells (rowOf m (digs k x)) 119)) (fun u _ _ => (intOf u).toNat)
  case atStart => exact ⟨0, x, 65, by decide, rfl, rfl, rfl, by simp, rfl⟩
  case round =>
    obtain ⟨k, v, m, hk, hm, rfl, rfl, hv, rfl⟩ := hrel
    have HV := Lib.hid hv
    have HM := Lib.hid hm
    have vx : v ≤ x := by rw [hv]; exact Nat.div_le_self _ _
    have m58 : 58 ≤ m := by omega
    have m65 : m ≤ 65 := by omega
    clear hv hm
    by_cases hlt : 16 ≤ v
    · have hmask := mask15 v (by omega)
      have hrow := row_at m (digs k x) (by omega)
      go_wp2
      go_roundw
      case rel =>
        have h6 : k < 7 := by
          rcases Nat.lt_or_ge k 7 with h | h
          · exact h
          · exfalso
            have e : k = 7 := by omega
            have := HV.out
            rw [e] at this
            omega
        refine ⟨k + 1, v / 16, m - 1, by omega, by have := HM.out; omega, by go_num, by go_num, ?_, ?_⟩
        · rw [HV.out, Nat.div_div_eq_div_mul, ← Nat.pow_succ]
        · rw [t36 _ (Nat.mod_lt _ (by decide)), row_set m _ _ (by omega), digs_front, HV.out]
      case measure => simp [intOf]; omega
    · have hrow := row_at m (digs k x) (by omega)
      have hv16 : v < 16 := by omega
      have ed : hexD v :: digs k x = digs (k + 1) x := by rw [digs_front, ← HV.out, Nat.mod_eq_of_lt hv16]
      have em : ((m - 1 : Nat) : Int) = (m : Int) - 1 := by omega
      have hsl := slice74 w.heap.size (m - 1) (by omega)
      rw [em] at hsl
      have hcv : (convert 40 9 (.slice (some ⟨w.heap.size, m - 1, none⟩) (65 - (m - 1)) (65 - (m - 1)))).run Tryz.prog (w.alloc (.cells ((rowOf m (digs k x)).setIfInBounds (m - 1) (.int .u8 ((table36[v]'(Nat.lt_of_lt_of_le hv16 (by decide))).toNat : Int))) 119)) = .ok (.string (B (digs (k + 1) x))) (w.alloc (.cells ((rowOf m (digs k x)).setIfInBounds (m - 1) (.int .u8 ((table36[v]'(Nat.lt_of_lt_of_le hv16 (by decide))).toNat : Int))) 119)) := by
        have el : (digs (k + 1) x).length = 65 - (m - 1) := by rw [digs_length]; have := HM.out; omega
        rw [t36 v hv16, row_set m _ _ (by omega), ed]
        have h := conv_row w (m - 1) (digs (k + 1) x) (65 - (m - 1))
        rw [el] at h
        exact h
      clear ed em
      go_wp2
      go_ret2
      refine ⟨k + 1, by omega, by omega, lt_pow x k (by rw [← HV.out]; exact hv16), rfl, (Below.refl _ _).alloc (Nat.le_refl _) _⟩
end Go.Proofs.YtljpclfeogiohaaGreatDoor.sum
