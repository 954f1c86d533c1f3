/- GridsMay: the eight ways together. -/
import Derived.Test.YtaapoinggdempaaGrdLawMay0
import Derived.Test.YtaapoinggdempaaGrdLawMay1
import Derived.Test.YtaapoinggdempaaGrdLawMay2
import Derived.Test.YtaapoinggdempaaGrdLawMay3
import Derived.Test.YtaapoinggdempaaGrdLawMay4
import Derived.Test.YtaapoinggdempaaGrdLawMay5
import Derived.Test.YtaapoinggdempaaGrdLawMay6
import Derived.Test.YtaapoinggdempaaGrdLawMay7
import Derived.Test.YtaapoinggdempaaGrdTops
import Derived.StillTailTactics
namespace Go.Proofs.Ytaapoinggdempaa.grd
open Go.RowKit Go.Lib
set_option linter.unusedVariables false
set_option linter.unusedSimpArgs false
set_option linter.unnecessarySimpa false
set_option linter.unusedSectionVars false

theorem law8_any (n m : Nat) (hn1 : 2 ≤ n) (hn2 : n ≤ 60) (hm1 : 8 ≤ m) (hm2 : m ≤ 132) (a0 a1 : Int) (ha0 : 0 ≤ a0 ∧ a0 ≤ 255) (ha1 : 0 ≤ a1 ∧ a1 ≤ 255) (hn : 2 + a0 % 59 = (n : Int)) (hm : 8 + a1 % 125 = (m : Int)) (cr cc : Int) (cb : UInt8) (ct : Nat) (hct : ct = cb.toNat) (w : World) :
    Calls Try.prog 8 #[.int .u8 a0, .int .u8 a1, .agg #[.int .i64 cr, .int .i64 cc, .int .u8 (ct : Int)]] w fun e w' => e = .returned (.bool true) ∧ Below w.heap.size w w' := by
  cases hx : decide (0 ≤ cr) <;> cases hy : decide (0 ≤ cc) <;> cases hz : decide (32 ≤ (ct : Int))
  · exact law8_way0 n m hn1 hn2 hm1 hm2 a0 a1 ha0 ha1 hn hm cr cc cb ct hct hx hy hz w
  · exact law8_way1 n m hn1 hn2 hm1 hm2 a0 a1 ha0 ha1 hn hm cr cc cb ct hct hx hy hz w
  · exact law8_way2 n m hn1 hn2 hm1 hm2 a0 a1 ha0 ha1 hn hm cr cc cb ct hct hx hy hz w
  · exact law8_way3 n m hn1 hn2 hm1 hm2 a0 a1 ha0 ha1 hn hm cr cc cb ct hct hx hy hz w
  · exact law8_way4 n m hn1 hn2 hm1 hm2 a0 a1 ha0 ha1 hn hm cr cc cb ct hct hx hy hz w
  · exact law8_way5 n m hn1 hn2 hm1 hm2 a0 a1 ha0 ha1 hn hm cr cc cb ct hct hx hy hz w
  · exact law8_way6 n m hn1 hn2 hm1 hm2 a0 a1 ha0 ha1 hn hm cr cc cb ct hct hx hy hz w
  · exact law8_way7 n m hn1 hn2 hm1 hm2 a0 a1 ha0 ha1 hn hm cr cc cb ct hct hx hy hz w
theorem law8L (a0 a1 : Int) (h0 : (Lit.int .u8 a0).wf = true) (h1 : (Lit.int .u8 a1).wf = true) (cr cc : Int) (cb : UInt8) (w : World) :
    Calls Try.prog 8 #[.int .u8 a0, .int .u8 a1, .agg #[.int .i64 cr, .int .i64 cc, .int .u8 (cb.toNat : Int)]] w fun e w' => e = .returned (.bool true) ∧ Below w.heap.size w w' := by
  have b0 := bnd_u8 h0
  have b1 := bnd_u8 h1
  obtain ⟨n, hn⟩ : ∃ n : Nat, 2 + a0 % 59 = (n : Int) := ⟨(2 + a0 % 59).toNat, by omega⟩
  obtain ⟨m, hm⟩ : ∃ m : Nat, 8 + a1 % 125 = (m : Int) := ⟨(8 + a1 % 125).toNat, by omega⟩
  exact law8_any n m (by omega) (by omega) (by omega) (by omega) a0 a1 b0 b1 hn hm cr cc cb _ rfl w
end Go.Proofs.Ytaapoinggdempaa.grd
