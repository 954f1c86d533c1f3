/- The document's Hex. -/
import Derived.Test.YtljpclfeogiohaaGreatDoorSumRef
import Derived.WalkSpells
import Derived.WalkLawsBesides
namespace Go.Proofs.YtljpclfeogiohaaGreatDoor.sum
open Go.RowKit Go.Lib

abbrev table : ByteArray := ⟨#[48, 49, 50, 51, 52, 53, 54, 55, 56, 57, 97, 98, 99, 100, 101, 102]⟩

theorem B_app (a b : List UInt8) : B a ++ B b = B (a ++ b) := by
  apply ByteArray.ext; simp [B]
theorem table_at : ∀ k : Fin 16, table.extract k (k + 1) = B [hexD k] := by decide
theorem pow_step (j : Nat) (h : j < 7) : 16 ^ (7 - j) / 16 = 16 ^ (7 - (j + 1)) := by
  rw [show 7 - j = (7 - (j + 1)) + 1 by omega, Nat.pow_succ, Nat.mul_div_cancel _ (by decide)]
theorem one_le_pow (n : Nat) : 1 ≤ 16 ^ n := Nat.pow_pos (by decide)
theorem digs_step (x j : Nat) (h : j < 8) : digs (j + 1) (x / 16 ^ (8 - (j + 1))) = digs j (x / 16 ^ (8 - j)) ++ [hexD (x / 16 ^ (7 - j) % 16)] := by
  rw [digs, Nat.div_div_eq_div_mul, ← Nat.pow_succ, show 8 - (j + 1) = 7 - j by omega, show (7 - j).succ = 8 - j by omega]

set_option maxHeartbeats 2000000 in
theorem refHex18 (x : Nat) (w : World) (hx : x < 4294967296) :
    Calls Tryz.prog 36 #[.int .u32 x] w fun e w' => e = .returned (.string (B (hexN x))) ∧ w = w' := by
  go_enter Tryz.func36, Tryz.ntmps36
  go_wp2
  go_loop [4, 5, 6] (fun s p _ => ∃ j q : Nat, j ≤ 8 ∧ q ≤ 268435456 ∧ p = .int .u32 q ∧ (j < 8 → q = 16 ^ (7 - j)) ∧ (j = 8 → q = 0) ∧ s = .string (B (digs j (x / 16 ^ (8 - j))))) (fun _ p _ => (intOf p).toNat)
  case atStart => exact ⟨0, 268435456, by decide, by decide, rfl, fun _ => rfl, (fun h => by cases h), rfl⟩
  case round =>
    obtain ⟨j, q, hj, hq, rfl, h1, h2, rfl⟩ := hrel
    have H1 := Lib.hid h1
    have H2 := Lib.hid h2
    clear h1 h2
    by_cases hlt : j < 8
    · have q1 : 1 ≤ q := by rw [H1.out hlt]; exact one_le_pow _
      have d0 : 0 ≤ (x : Int) / (q : Int) := Int.ediv_nonneg (by omega) (by omega)
      have d1 : (x : Int) / (q : Int) ≤ 4294967295 := by
        have : x / q ≤ x := Nat.div_le_self _ _
        have e : (x : Int) / (q : Int) = ((x / q : Nat) : Int) := rfl
        rw [e]; omega
      have hl : (digs j (x / 16 ^ (8 - j))).length ≤ 8 := by rw [digs_length]; omega
      go_wp2
      go_round
      case rel =>
        refine ⟨j + 1, q / 16, by omega, by omega, by go_num, fun h => ?_, fun h => ?_, ?_⟩
        · rw [H1.out hlt, pow_step j (by omega)]
        · obtain rfl : j = 7 := by omega
          rw [H1.out hlt]
        · rw [digs_step x j hlt, ← B_app, H1.out hlt]
          have := table_at ⟨x / 16 ^ (7 - j) % 16, Nat.mod_lt _ (by decide)⟩
          exact congrArg (fun t => Value.string (B (digs j (x / 16 ^ (8 - j))) ++ t)) this
      case measure => simp [intOf]; omega
    · obtain rfl : j = 8 := by omega
      obtain rfl : q = 0 := H2.out rfl
      go_wp2
      go_ret
      exact ⟨rfl, rfl⟩
end Go.Proofs.YtljpclfeogiohaaGreatDoor.sum
