/- Saves: a row of function literals, done one behind the other, up to the first error. -/
import Derived.Test.YtlbhegicapggeaaSavAsk
namespace Go.Proofs.Ytlbhegicapggeaa.sav
open Go.RowKit Go.Lib Go.Maps Go.WideMaps fil
set_option linter.unusedVariables false
set_option linter.unusedSimpArgs false
set_option linter.unnecessarySimpa false
set_option linter.unusedSectionVars false

set_option maxHeartbeats 1000000 in
set_option maxRecDepth 100000 in
theorem row_is (b n c : Nat) (ks : Nat → Nat) (cs : Nat → Array Value) (Inv : Nat → World → Prop) (Done : Int → World → Prop) (w : World) (hn : n ≤ 1000)
    (hcell : ∀ i W, i < n → Inv i W → W.cell? ⟨b, i, none⟩ = some (.func (.func (ks i)) #[] (cs i)))
    (hfunc : ∀ i W, (callFunc (ks i) (cs i)).run Try.prog W = .ok (.enter (ks i) (cs i)) W)
    (hdo : ∀ i W, i < n → Inv i W → Calls Try.prog (ks i) (cs i) W fun e W' => ∃ z, e = .returned (.int .i64 z) ∧ ((z = 0 ∧ Inv (i + 1) W') ∨ (z ≠ 0 ∧ Done z W')))
    (h0 : Inv 0 w) (hend : ∀ W, Inv n W → Done 0 W) :
    Calls Try.prog 23 #[.slice (some ⟨b, 0, none⟩) n c] w fun e w' => ∃ z, e = .returned (.int .i64 z) ∧ Done z w' := by
  have HC := Lib.hid hcell
  have HF := Lib.hid hfunc
  have HD := Lib.hid hdo
  have H0 := Lib.hid h0
  have HE := Lib.hid hend
  clear hcell hfunc hdo h0 hend
  go_enter Try.func23, Try.ntmps23
  go_wp2
  go_loopg [8] n (fun g s8 wr => ∃ i : Nat, s8 = .int .i64 i ∧ i ≤ n ∧ n - i ≤ g ∧ Hid (Inv i wr))
  case atStart => exact ⟨0, rfl, Nat.zero_le _, by omega, H0⟩
  case round =>
    obtain ⟨i, rfl, hi, hg, HI⟩ := hrel
    by_cases hlt : i < n
    · have k0 := HC.out i wr hlt HI.out
      have f0 := HF.out i
      have C := Lib.hid (HD.out i wr hlt HI.out)
      go_wp2
      refine C.out.mono ?_
      rintro e w2 ⟨z, rfl, hz⟩
      have HZ := Lib.hid hz
      clear hz C
      by_cases hz0 : z = 0
      · subst hz0
        go_wp2
        go_roundg (n - (i + 1))
        case measure => omega
        case rel =>
          rcases HZ.out with ⟨_, h⟩ | ⟨h, _⟩
          · exact ⟨i + 1, by go_num, by omega, by omega, Lib.hid h⟩
          · exact absurd rfl h
      · have hd : (z != 0) = true := by simpa using hz0
        go_wp2
        go_ret
        rcases HZ.out with ⟨h, _⟩ | ⟨_, h⟩
        · exact absurd h hz0
        · exact ⟨z, rfl, h⟩
    · obtain rfl : i = n := by omega
      go_wp2
      go_ret
      exact ⟨0, rfl, HE.out _ HI.out⟩
end Go.Proofs.Ytlbhegicapggeaa.sav
