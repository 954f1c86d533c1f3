/- The program's Hex; the law's own examples come out. -/
import Derived.Test.YtljpclfeogiohaaGreatDoorSumBits
import Derived.Test.YtljpclfeogiohaaGreatDoorShelf
namespace Go.Proofs.YtljpclfeogiohaaGreatDoor.sum
open Go.RowKit Go.Lib

def Digits (x : Nat) (w : World) (e : Ending) (w' : World) : Prop := ∃ n, 1 ≤ n ∧ n ≤ 8 ∧ x < 16 ^ n ∧ e = .returned (.string (B (digs n x))) ∧ Below w.heap.size w w'
theorem format27 (x : Nat) (w : World) (hx : x < 4294967296) (hV : Vars w.heap.size w) :
    Calls Tryz.prog 46 #[.int .u64 x, .int .i64 16] w (Digits x w) := by
  go_enter Tryz.func46, Tryz.ntmps46
  go_wp2_with fail
  go_at_call 63
  refine (bits37 x w hx hV).mono ?_
  rintro e w' ⟨n, h1, h2, h3, rfl, hB⟩
  go_wp2
  go_ret
  exact ⟨n, h1, h2, h3, rfl, hB⟩
theorem format25 (x : Nat) (w : World) (hx : x < 4294967296) (hV : Vars w.heap.size w) :
    Calls Tryz.prog 32 #[.int .u64 x, .int .i64 16] w (Digits x w) := by
  go_enter Tryz.func32, Tryz.ntmps32
  go_wp2_with fail
  go_at_call 46
  refine (format27 x w hx hV).mono ?_
  rintro e w' ⟨n, h1, h2, h3, rfl, hB⟩
  go_wp2
  go_ret
  exact ⟨n, h1, h2, h3, rfl, hB⟩
theorem repeat_one (c : UInt8) : ∀ n, Lib.repeatL [c] n = List.replicate n c := by
  intro n
  induction n with
  | zero => rfl
  | succ n ih => rw [Lib.repeatL, ih, List.replicate_succ]; rfl

set_option maxHeartbeats 1000000 in
theorem hex17 (x : Nat) (w : World) (hx : x < 4294967296) (hV : Vars w.heap.size w) :
    Calls Tryz.prog 23 #[.int .u32 x] w fun e w' => e = .returned (.string (B (hexN x))) ∧ Below w.heap.size w w' := by
  go_enter Tryz.func23, Tryz.ntmps23
  go_wp2_with fail
  go_at_call 32
  refine (format25 x w hx hV).mono ?_
  rintro e w1 ⟨n, h1, h2, h3, rfl, hB⟩
  have hl : (digs n x).length ≤ 8 := by rw [digs_length]; exact h2
  have hle : (digs n x).length = n := digs_length n x
  have hc : ((8 - n : Nat) : Int) = 8 - ((digs n x).length : Int) := by rw [hle]; omega
  have hr := Tryz.strings_Repeat ⟨#[48]⟩ (8 - n) w1 (by omega) (by have : (⟨#[48]⟩ : ByteArray).size = 1 := rfl; rw [this]; omega)
  rw [hc] at hr
  have HP := Lib.hid h3
  clear h3 hle hc
  go_wp2_with fail
  go_at_call 33
  refine hr.mono ?_
  rintro e w2 ⟨rfl, hB2⟩
  have hrl : (Lib.repeatL (⟨#[48]⟩ : ByteArray).data.toList (8 - n)).length ≤ 8 := by rw [show (⟨#[48]⟩ : ByteArray).data.toList = [48] from rfl, repeat_one, List.length_replicate]; omega
  go_wp2
  go_ret
  refine ⟨?_, hB.trans (hB2.mono hB.size)⟩
  have e : (8 : Nat) = n + (8 - n) := by omega
  show Ending.returned (.string (B (Lib.repeatL [48] (8 - n)) ++ B (digs n x))) = .returned (.string (B (hexN x)))
  rw [B_app, repeat_one, ← digs_pad (8 - n) n x HP.out, ← e]
  rfl

theorem sumE (w : World) : Calls Tryz.prog 24 #[.string ⟨#[]⟩] w fun e w' => e = .returned (.int .u32 0) ∧ w = w' := sum11 ⟨#[]⟩ w (by decide)
theorem sumA (w : World) : Calls Tryz.prog 24 #[.string ⟨#[97]⟩] w fun e w' => e = .returned (.int .u32 6357089) ∧ w = w' := sum11 ⟨#[97]⟩ w (by decide)
theorem sumAB (w : World) : Calls Tryz.prog 24 #[.string ⟨#[97, 98]⟩] w fun e w' => e = .returned (.int .u32 19136707) ∧ w = w' := sum11 ⟨#[97, 98]⟩ w (by decide)
theorem sumC (w : World) : Calls Tryz.prog 24 #[.string ⟨#[99]⟩] w fun e w' => e = .returned (.int .u32 6488163) ∧ w = w' := sum11 ⟨#[99]⟩ w (by decide)
theorem sumABC (w : World) : Calls Tryz.prog 24 #[.string ⟨#[97, 98, 99]⟩] w fun e w' => e = .returned (.int .u32 38404390) ∧ w = w' := sum11 ⟨#[97, 98, 99]⟩ w (by decide)
theorem hexABC (w : World) (hV : Vars w.heap.size w) : Calls Tryz.prog 23 #[.int .u32 38404390] w fun e w' => e = .returned (.string ⟨#[48, 50, 52, 97, 48, 49, 50, 54]⟩) ∧ Below w.heap.size w w' := hex17 38404390 w (by decide) hV

end Go.Proofs.YtljpclfeogiohaaGreatDoor.sum
