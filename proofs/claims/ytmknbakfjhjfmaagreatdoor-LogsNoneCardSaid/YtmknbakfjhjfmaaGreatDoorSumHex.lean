/- The program's Hex; the law's own examples come out. -/
import Derived.Test.YtmknbakfjhjfmaaGreatDoorWords
import Derived.Test.YtmknbakfjhjfmaaGreatDoorSumPure2
import Derived.LoopTactic
import Derived.Laws.Bits64b
import Derived.Outline
import Derived.WalkSpells
import Derived.WalkLawsBesides
import Derived.Laws.NewBlocks
import Derived.Laws.IdiomStrings
import Derived.Lib.ItoaMem
import Derived.Test.YtmknbakfjhjfmaaGreatDoorShelf
/-! The sums: the program's Sum, More, Join and what they call. -/
namespace Go.Proofs.YtmknbakfjhjfmaaGreatDoor.sum
open Go.RowKit Go.Lib

theorem tmod_bounds (n : Int) : -65534 ≤ n.tmod 65535 ∧ n.tmod 65535 ≤ 65534 := by
  have h := Int.tmod_eq_emod (a := n) (b := 65535)
  split at h <;> omega
theorem tmod_emod (n : Int) : n.tmod 65535 % 65535 = n % 65535 := by
  have h := Int.tmod_eq_emod (a := n) (b := 65535)
  split at h <;> omega

theorem number19 (a b : Nat) (w : World) (ha : a < 65535) (hb : b < 65535) :
    Calls Tryz.prog 67 #[.int .u32 a, .int .u32 b] w fun e w' => e = .returned (.int .u32 (num a b)) ∧ w = w' := by
  go_enter Tryz.func67, Tryz.ntmps67
  go_wp2
  go_ret
  exact ⟨ret_int (by unfold num; omega), rfl⟩
theorem take_snoc (s : ByteArray) (k : Nat) (h : k < s.size) : s.data.toList.take (k + 1) = s.data.toList.take k ++ [s[k]] := by
  rw [List.take_succ_eq_append_getElem (by simpa using h)]; rfl
theorem size_list (s : ByteArray) : s.data.toList.length = s.size := by simp

set_option maxHeartbeats 1000000 in
theorem sum11 (s : ByteArray) (w : World) (hs : s.size ≤ maxLen) :
    Calls Tryz.prog 41 #[.string s] w fun e w' => e = .returned (.int .u32 (sumN s.data.toList)) ∧ w = w' := by
  unfold maxLen at hs
  go_enter Tryz.func41, Tryz.ntmps41
  go_wp2
  go_loop [3, 4, 8] (fun a b i => ∃ k f g : Nat, k ≤ s.size ∧ i = .int .i64 k ∧ a = .int .u32 f ∧ b = .int .u32 g ∧ f < 65535 ∧ g < 65535 ∧ f = w1 (s.data.toList.take k) % 65535 ∧ g = w2 (s.data.toList.take k) % 65535) (fun _ _ i => s.size - (intOf i).toNat)
  case atStart => exact ⟨0, 0, 0, Nat.zero_le _, rfl, rfl, rfl, by decide, by decide, rfl, rfl⟩
  case round =>
    obtain ⟨k, f, g, hk, rfl, rfl, rfl, hf, hg, e1, e2⟩ := hrel
    have E1 := Lib.hid e1
    have E2 := Lib.hid e2
    clear e1 e2
    by_cases hlt : k < s.size
    · have hts := Lib.hid (take_snoc s k hlt)
      have hc := (s[k]).toNat_lt
      go_wp2
      go_round
      case rel =>
        refine ⟨k + 1, (f + s[k].toNat) % 65535, (g + (f + s[k].toNat) % 65535) % 65535, by omega, by go_num, by go_num, by go_num, Nat.mod_lt _ (by decide), Nat.mod_lt _ (by decide), ?_, ?_⟩
        · rw [hts.out, w1_snoc, E1.out]; omega
        · rw [hts.out, w2_snoc, E1.out, E2.out]; omega
      case measure => simp [intOf]; omega
    · obtain rfl : k = s.size := by omega
      go_wp2_with fail
      go_at_call 67
      refine (number19 f g _ hf hg).mono ?_
      rintro e w' ⟨rfl, rfl⟩
      go_wp2
      go_ret
      refine ⟨ret_int ?_, rfl⟩
      have t : s.data.toList.take s.size = s.data.toList := List.take_of_length_le (by simp)
      have q1 := E1.out
      have q2 := E2.out
      rw [t] at q1 q2
      rw [q1, q2, num_mod]
      rfl

end Go.Proofs.YtmknbakfjhjfmaaGreatDoor.sum

/-! The document's answers: Sum, More, Join and what they call. -/
namespace Go.Proofs.YtmknbakfjhjfmaaGreatDoor.sum
open Go.RowKit Go.Lib

end Go.Proofs.YtmknbakfjhjfmaaGreatDoor.sum

/-! The document's Hex. -/
namespace Go.Proofs.YtmknbakfjhjfmaaGreatDoor.sum
open Go.RowKit Go.Lib

abbrev table : ByteArray := ⟨#[48, 49, 50, 51, 52, 53, 54, 55, 56, 57, 97, 98, 99, 100, 101, 102]⟩

theorem B_app (a b : List UInt8) : B a ++ B b = B (a ++ b) := by
  apply ByteArray.ext; simp [B]
theorem table_at : ∀ k : Fin 16, table.extract k (k + 1) = B [hexD k] := by decide
theorem pow_step (j : Nat) (h : j < 7) : 16 ^ (7 - j) / 16 = 16 ^ (7 - (j + 1)) := by
  rw [show 7 - j = (7 - (j + 1)) + 1 by omega, Nat.pow_succ, Nat.mul_div_cancel _ (by decide)]
theorem one_le_pow (n : Nat) : 1 ≤ 16 ^ n := Nat.pow_pos (by decide)
theorem digs_step (x j : Nat) (h : j < 8) : digs (j + 1) (x / 16 ^ (8 - (j + 1))) = digs j (x / 16 ^ (8 - j)) ++ [hexD (x / 16 ^ (7 - j) % 16)] := by
  rw [digs, Nat.div_div_eq_div_mul, ← Nat.pow_succ, show 8 - (j + 1) = 7 - j by omega, show (7 - j).succ = 8 - j by omega]

end Go.Proofs.YtmknbakfjhjfmaaGreatDoor.sum

/-! strconv.FormatUint to the base 16, of a number of 32 bits. -/
namespace Go.Proofs.YtmknbakfjhjfmaaGreatDoor.sum
open Go.RowKit Go.Lib

/-- What is read of the library's variables: one cell of a table. -/
def Vars (n : Nat) (w : World) : Prop := 6 < n ∧ w.cell? ⟨6, 15, none⟩ = some (.int .u8 4)
theorem Vars.below {n : Nat} {w w' : World} (h : Vars n w) (hB : Below n w w') : Vars n w' := ⟨h.1, (hB.cell (p := ⟨6, 15, none⟩) (by have := h.1; show 6 < n; omega)).trans h.2⟩
theorem Vars.more {n m : Nat} {w : World} (h : Vars n w) (hm : n ≤ m) : Vars m w := ⟨by have := h.1; omega, h.2⟩
theorem Vars.next {w w' : World} (h : Vars w.heap.size w) (hB : Below w.heap.size w w') : Vars w'.heap.size w' := (h.below hB).more hB.size

theorem key51 : IntKind.u64.wrap (bits BinOp.and IntKind.u64 16 (IntKind.u64.wrap (-16)) * 285870213051353865) / 288230376151711744 = 15 := by kernel_rfl
theorem and46 : (bits BinOp.and IntKind.i64 16 15 == 0) = true := by kernel_rfl
theorem tz51 (w : World) (h : w.cell? ⟨6, 15, none⟩ = some (.int .u8 4)) :
    Calls Tryz.prog 155 #[.int .u64 16] w fun e w' => e = .returned (.int .i64 4) ∧ w = w' := by
  go_enter Tryz.func155, Tryz.ntmps155
  go_wp2_with (simp only [key51])
  go_ret
  exact ⟨rfl, rfl⟩
theorem tz47 (w : World) (h : w.cell? ⟨6, 15, none⟩ = some (.int .u8 4)) :
    Calls Tryz.prog 135 #[.int .u64 16] w fun e w' => e = .returned (.int .i64 4) ∧ w = w' := by
  go_enter Tryz.func135, Tryz.ntmps135
  go_wp2_with (go_at_call 155; refine (tz51 w h).mono ?_; rintro e w' ⟨rfl, rfl⟩)
  go_ret
  exact ⟨rfl, rfl⟩
theorem two46 (w : World) : Calls Tryz.prog 134 #[.int .i64 16] w fun e w' => e = .returned (.bool true) ∧ w = w' := by
  go_enter Tryz.func134, Tryz.ntmps134
  go_wp2
  go_ret
  exact ⟨ret_bool and46, rfl⟩

theorem mask15 (a : Nat) (ha : a < 18446744073709551616) : bits BinOp.and IntKind.u64 (a : Int) 15 = ((a % 16 : Nat) : Int) := by
  have h := bits_and_u64_nat a 15 ha (by omega)
  have e : a &&& 15 = a % 16 := Nat.and_two_pow_sub_one_eq_mod a 4
  rw [e] at h
  exact h

/-- The array: so many noughts, then what has been written, to its end. -/
def rowOf (n : Nat) (l : List UInt8) : Array Value := (List.replicate n (Value.int .u8 0) ++ l.map fun c => Value.int .u8 (c.toNat : Int)).toArray

theorem row_at (m : Nat) (l : List UInt8) (h : 1 ≤ m) : (rowOf m l)[m - 1]? = some (.int .u8 0) := by
  unfold rowOf
  rw [List.getElem?_toArray, List.getElem?_append_left (by simp; omega), List.getElem?_replicate, if_pos (by omega)]
theorem row_set (m : Nat) (l : List UInt8) (c : UInt8) (h : 1 ≤ m) : (rowOf m l).setIfInBounds (m - 1) (.int .u8 (c.toNat : Int)) = rowOf (m - 1) (c :: l) := by
  unfold rowOf
  obtain ⟨n, rfl⟩ : ∃ n, m = n + 1 := ⟨m - 1, by omega⟩
  rw [List.setIfInBounds_toArray, Nat.add_sub_cancel, List.replicate_succ', List.append_assoc, List.set_append_right _ _ (by simp)]
  simp
theorem row_tail (m : Nat) (l : List UInt8) (j : Nat) (h : j < l.length) : (rowOf m l)[m + j]? = some (.int .u8 (l[j].toNat : Int)) := by
  unfold rowOf
  rw [List.getElem?_toArray, List.getElem?_append_right (by simp)]
  simp [List.getElem?_eq_getElem h]
abbrev table36 : ByteArray := ⟨#[48, 49, 50, 51, 52, 53, 54, 55, 56, 57, 97, 98, 99, 100, 101, 102, 103, 104, 105, 106, 107, 108, 109, 110, 111, 112, 113, 114, 115, 116, 117, 118, 119, 120, 121, 122]⟩
theorem t36 (v : Nat) (h : v < 16) (hw : v < table36.size) : table36[v]'hw = hexD v := by
  have key : ∀ k : Fin 16, table36[k.val]'(Nat.lt_of_lt_of_le k.isLt (by decide)) = hexD k := by decide
  exact key ⟨v, h⟩
theorem slice74 (b m : Nat) (hm : m < 65) (W : World) : (Instr.sliceAt 197 (.pointer (some ⟨b, 0, none⟩)) (some (.int .i64 (m : Int))) none none).run Tryz.prog W = .ok (.slice (some ⟨b, m, none⟩) (65 - m) (65 - m)) W := by
  have hal : Tryz.prog.arrayLen 197 = 65 := by kernel_rfl
  have hel : Tryz.prog.elem 197 = 5 := by kernel_rfl
  rw [run_sliceAt_array_l W 197 ⟨b, 0, none⟩ (by simp [Program.arrayLen, Program.elem, Tryz.underlying197]) .i64 (m : Int) (by omega) (by rw [hal]; omega)]
  go_simp
  omega
theorem conv_row (w : World) (m : Nat) (l : List UInt8) (c : Nat) : (convert 83 9 (.slice (some ⟨w.heap.size, m, none⟩) l.length c)).run Tryz.prog (w.alloc (.cells (rowOf m l) 197)) = .ok (.string (B l)) (w.alloc (.cells (rowOf m l) 197)) :=
  run_convert_bytes_back (P := Tryz.prog) _ 83 9 5 ⟨w.heap.size, m, none⟩ c l Tryz.underlying83 Tryz.underlying5 Tryz.underlying9 (fun j hj => by
    rw [Lib.add_plain, World.cell?_alloc_new]
    exact row_tail m l j hj)
theorem lt_pow (x k : Nat) (h : x / 16 ^ k < 16) : x < 16 ^ (k + 1) := by
  rw [Nat.pow_succ, Nat.mul_comm]
  exact (Nat.div_lt_iff_lt_mul (Nat.pow_pos (by decide))).1 h
theorem a74 (w : World) : (isAgg 197).run Tryz.prog w = .ok true w := by kernel_rfl
theorem z74 (w : World) : (Go.sizeOf 197).run Tryz.prog w = .ok 65 w := by kernel_rfl
theorem v74 (w : World) : (zeroValue 197).run Tryz.prog w = .ok (.agg (rowOf 65 [])) w := by kernel_rfl

set_option maxHeartbeats 4000000 in
set_option maxRecDepth 100000 in
theorem bits37 (x : Nat) (w : World) (hx : x < 4294967296) (hV : Vars w.heap.size w) :
    Calls Tryz.prog 115 #[.slice none 0 0, .int .u64 x, .int .i64 16, .bool false, .bool false] w fun e w' => ∃ n, 1 ≤ n ∧ n ≤ 8 ∧ x < 16 ^ n ∧ e = .returned (.tuple #[.slice none 0 0, .string (B (digs n x))]) ∧ Below w.heap.size w w' := by
  have hc := hV.2
  have h4 := hV.1
  have a74 := a74
  have z74 := z74
  have v74 := v74
  go_enter Tryz.func115, Tryz.ntmps115
  go_wp2_with fail
  go_at_call 134
  refine (two46 _).mono ?_
  rintro e w' ⟨rfl, rfl⟩
  go_wp2_with fail
  go_at_call 135
  refine (tz47 _ ?_).mono ?_
  · rw [World.cell?_alloc_lt _ _ _ (by show 6 < w.heap.size; omega)]; exact hc
  rintro e w' ⟨rfl, rfl⟩
  clear a74 z74 v74
  go_wp2_with fail
  go_loopw [1, 13] (fun u i wr => ∃ k v m : Nat, k ≤ 7 ∧ m + k = 65 ∧ u = .int .u64 v ∧ i = .int .i64 m ∧ v = x / 16 ^ k ∧ wr = w.alloc (.cells (rowOf m (digs k x)) 197)) (fun u _ _ => (intOf u).toNat)
  case atStart => exact ⟨0, x, 65, by decide, rfl, rfl, rfl, by simp, rfl⟩
  case round =>
    obtain ⟨k, v, m, hk, hm, rfl, rfl, hv, rfl⟩ := hrel
    have HV := Lib.hid hv
    have HM := Lib.hid hm
    have vx : v ≤ x := by rw [hv]; exact Nat.div_le_self _ _
    have m58 : 58 ≤ m := by omega
    have m65 : m ≤ 65 := by omega
    clear hv hm
    by_cases hlt : 16 ≤ v
    · have hmask := mask15 v (by omega)
      have hrow := row_at m (digs k x) (by omega)
      go_wp2
      go_roundw
      case rel =>
        have h6 : k < 7 := by
          rcases Nat.lt_or_ge k 7 with h | h
          · exact h
          · exfalso
            have e : k = 7 := by omega
            have := HV.out
            rw [e] at this
            omega
        refine ⟨k + 1, v / 16, m - 1, by omega, by have := HM.out; omega, by go_num, by go_num, ?_, ?_⟩
        · rw [HV.out, Nat.div_div_eq_div_mul, ← Nat.pow_succ]
        · rw [t36 _ (Nat.mod_lt _ (by decide)), row_set m _ _ (by omega), digs_front, HV.out]
      case measure => simp [intOf]; omega
    · have hrow := row_at m (digs k x) (by omega)
      have hv16 : v < 16 := by omega
      have ed : hexD v :: digs k x = digs (k + 1) x := by rw [digs_front, ← HV.out, Nat.mod_eq_of_lt hv16]
      have em : ((m - 1 : Nat) : Int) = (m : Int) - 1 := by omega
      have hsl := slice74 w.heap.size (m - 1) (by omega)
      rw [em] at hsl
      have hcv : (convert 83 9 (.slice (some ⟨w.heap.size, m - 1, none⟩) (65 - (m - 1)) (65 - (m - 1)))).run Tryz.prog (w.alloc (.cells ((rowOf m (digs k x)).setIfInBounds (m - 1) (.int .u8 ((table36[v]'(Nat.lt_of_lt_of_le hv16 (by decide))).toNat : Int))) 197)) = .ok (.string (B (digs (k + 1) x))) (w.alloc (.cells ((rowOf m (digs k x)).setIfInBounds (m - 1) (.int .u8 ((table36[v]'(Nat.lt_of_lt_of_le hv16 (by decide))).toNat : Int))) 197)) := by
        have el : (digs (k + 1) x).length = 65 - (m - 1) := by rw [digs_length]; have := HM.out; omega
        rw [t36 v hv16, row_set m _ _ (by omega), ed]
        have h := conv_row w (m - 1) (digs (k + 1) x) (65 - (m - 1))
        rw [el] at h
        exact h
      clear ed em
      go_wp2
      go_ret2
      refine ⟨k + 1, by omega, by omega, lt_pow x k (by rw [← HV.out]; exact hv16), rfl, (Below.refl _ _).alloc (Nat.le_refl _) _⟩
end Go.Proofs.YtmknbakfjhjfmaaGreatDoor.sum

/-! The program's Hex; the law's own examples come out. -/
namespace Go.Proofs.YtmknbakfjhjfmaaGreatDoor.sum
open Go.RowKit Go.Lib

def Digits (x : Nat) (w : World) (e : Ending) (w' : World) : Prop := ∃ n, 1 ≤ n ∧ n ≤ 8 ∧ x < 16 ^ n ∧ e = .returned (.string (B (digs n x))) ∧ Below w.heap.size w w'
theorem format27 (x : Nat) (w : World) (hx : x < 4294967296) (hV : Vars w.heap.size w) :
    Calls Tryz.prog 89 #[.int .u64 x, .int .i64 16] w (Digits x w) := by
  go_enter Tryz.func89, Tryz.ntmps89
  go_wp2_with fail
  go_at_call 115
  refine (bits37 x w hx hV).mono ?_
  rintro e w' ⟨n, h1, h2, h3, rfl, hB⟩
  go_wp2
  go_ret
  exact ⟨n, h1, h2, h3, rfl, hB⟩
theorem format25 (x : Nat) (w : World) (hx : x < 4294967296) (hV : Vars w.heap.size w) :
    Calls Tryz.prog 65 #[.int .u64 x, .int .i64 16] w (Digits x w) := by
  go_enter Tryz.func65, Tryz.ntmps65
  go_wp2_with fail
  go_at_call 89
  refine (format27 x w hx hV).mono ?_
  rintro e w' ⟨n, h1, h2, h3, rfl, hB⟩
  go_wp2
  go_ret
  exact ⟨n, h1, h2, h3, rfl, hB⟩
theorem repeat_one (c : UInt8) : ∀ n, Lib.repeatL [c] n = List.replicate n c := by
  intro n
  induction n with
  | zero => rfl
  | succ n ih => rw [Lib.repeatL, ih, List.replicate_succ]; rfl

set_option maxHeartbeats 1000000 in
theorem hex17 (x : Nat) (w : World) (hx : x < 4294967296) (hV : Vars w.heap.size w) :
    Calls Tryz.prog 40 #[.int .u32 x] w fun e w' => e = .returned (.string (B (hexN x))) ∧ Below w.heap.size w w' := by
  go_enter Tryz.func40, Tryz.ntmps40
  go_wp2_with fail
  go_at_call 65
  refine (format25 x w hx hV).mono ?_
  rintro e w1 ⟨n, h1, h2, h3, rfl, hB⟩
  have hl : (digs n x).length ≤ 8 := by rw [digs_length]; exact h2
  have hle : (digs n x).length = n := digs_length n x
  have hc : ((8 - n : Nat) : Int) = 8 - ((digs n x).length : Int) := by rw [hle]; omega
  have hr := Tryz.strings_Repeat ⟨#[48]⟩ (8 - n) w1 (by omega) (by have : (⟨#[48]⟩ : ByteArray).size = 1 := rfl; rw [this]; omega)
  rw [hc] at hr
  have HP := Lib.hid h3
  clear h3 hle hc
  go_wp2_with fail
  go_at_call 66
  refine hr.mono ?_
  rintro e w2 ⟨rfl, hB2⟩
  have hrl : (Lib.repeatL (⟨#[48]⟩ : ByteArray).data.toList (8 - n)).length ≤ 8 := by rw [show (⟨#[48]⟩ : ByteArray).data.toList = [48] from rfl, repeat_one, List.length_replicate]; omega
  go_wp2
  go_ret
  refine ⟨?_, hB.trans (hB2.mono hB.size)⟩
  have e : (8 : Nat) = n + (8 - n) := by omega
  show Ending.returned (.string (B (Lib.repeatL [48] (8 - n)) ++ B (digs n x))) = .returned (.string (B (hexN x)))
  rw [B_app, repeat_one, ← digs_pad (8 - n) n x HP.out, ← e]
  rfl

theorem sumE (w : World) : Calls Tryz.prog 41 #[.string ⟨#[]⟩] w fun e w' => e = .returned (.int .u32 0) ∧ w = w' := sum11 ⟨#[]⟩ w (by decide)
theorem sumA (w : World) : Calls Tryz.prog 41 #[.string ⟨#[97]⟩] w fun e w' => e = .returned (.int .u32 6357089) ∧ w = w' := sum11 ⟨#[97]⟩ w (by decide)
theorem sumAB (w : World) : Calls Tryz.prog 41 #[.string ⟨#[97, 98]⟩] w fun e w' => e = .returned (.int .u32 19136707) ∧ w = w' := sum11 ⟨#[97, 98]⟩ w (by decide)
theorem sumC (w : World) : Calls Tryz.prog 41 #[.string ⟨#[99]⟩] w fun e w' => e = .returned (.int .u32 6488163) ∧ w = w' := sum11 ⟨#[99]⟩ w (by decide)
theorem sumABC (w : World) : Calls Tryz.prog 41 #[.string ⟨#[97, 98, 99]⟩] w fun e w' => e = .returned (.int .u32 38404390) ∧ w = w' := sum11 ⟨#[97, 98, 99]⟩ w (by decide)
theorem hexABC (w : World) (hV : Vars w.heap.size w) : Calls Tryz.prog 40 #[.int .u32 38404390] w fun e w' => e = .returned (.string ⟨#[48, 50, 52, 97, 48, 49, 50, 54]⟩) ∧ Below w.heap.size w w' := hex17 38404390 w (by decide) hV

end Go.Proofs.YtmknbakfjhjfmaaGreatDoor.sum
