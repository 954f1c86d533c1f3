/- Classes: Class. -/
import Derived.Test.YtmemdmjfccepgaaClsName
import Derived.Test.YtmemdmjfccepgaaClsOthers
namespace Go.Proofs.Ytmemdmjfccepgaa.cls
open Go.RowKit Go.Lib
set_option linter.unusedVariables false
set_option linter.unusedSimpArgs false
set_option linter.unnecessarySimpa false
set_option linter.unusedSectionVars false

theorem in_ret {x y : Bool} {b : Bool} (h : x = y) : Ending.returned (.tuple #[.bool x, .bool b]) = .returned (.tuple #[.bool y, .bool b]) := by rw [h]
/-- The class's bytes, or none. -/
def clsG (l : List UInt8) : Nat → Bool := (clsOf l).getD noB
theorem Kp.of_but {b n : Nat} {w W : World} (h : But b w W) (hb : b < n) : Kp n w W := ⟨by rw [h.size]; exact Nat.le_refl _, fun i hi c t hc => (h.block i (by omega)).trans hc⟩
theorem nat_u8 (k : Nat) (h : k < 256) : IntKind.u8.wrap (k : Int) = k := by simp [IntKind.wrap, IntKind.signed, IntKind.bits]; omega

set_option maxHeartbeats 2000000 in
set_option maxRecDepth 100000 in
theorem class_is (s : ByteArray) (w : World) (hs : s.size ≤ maxLen) :
    Calls Try.prog 13 #[.string s] w fun e w' => e = .returned (.tuple #[.agg (arr (clsG s.data.toList)), .bool (clsOf s.data.toList).isSome]) ∧ Below w.heap.size w w' := by
  have HS := Lib.hid hs
  clear hs
  obtain ⟨G, hG⟩ : ∃ G, clsG s.data.toList = G := ⟨_, rfl⟩
  obtain ⟨I, hI⟩ : ∃ I, (clsOf s.data.toList).isSome = I := ⟨_, rfl⟩
  rw [hG, hI]
  have HG := Lib.hid hG
  have HI' := Lib.hid hI
  clear hG hI
  go_enter Try.func13, Try.ntmps13
  go_wp2_with (refine wpList_allocA rfl rfl ?_; intro w1 hs1 ha1 hb1)
  go_at_call 23
  refine (byName_is w1).mono ?_
  rintro e w2 ⟨v, rfl, ht, hb2⟩
  have hA : Arr w2 w.heap.size noB := ha1.keep hb2 (by omega)
  have HB := Lib.hid (hb1.trans (hb2.mono (by omega)))
  have HS1 := Lib.hid hs1
  rcases ht.look s HS.out with ⟨hn, hr⟩ | ⟨u, f, hf, hu, hr⟩
  · have e1 : G = noB := by rw [← HG.out]; simp [clsG, hn]
    have e2 : I = false := by rw [← HI'.out, hn]; rfl
    have E := Lib.hid (And.intro e1 e2)
    clear ht hn e1 e2 ha1 hb1 hb2 hs1
    go_wp2_with (first | (refine wpList_loadA rfl _ rfl _ rfl _ hA ?_) | (refine wpList_storeA rfl _ _ rfl _ _ rfl rfl _ hA ?_; intro w3 ha3 hb3))
    (try simp only [Exit.inBlock, Exit.then])
    refine bodyPost_ret (results_A2 rfl rfl ha3) rfl ?_
    exact ⟨(by rw [E.out.1, E.out.2]; rfl), HB.out.trans (hb3.below (Nat.le_refl _))⟩
  · have e1 : G = f := by rw [← HG.out]; simp [clsG, hf]
    have e2 : I = true := by rw [← HI'.out, hf]; rfl
    have E := Lib.hid (And.intro e1 e2)
    obtain ⟨kf, cs, rfl, f0, C⟩ := hu
    have HC := Lib.hid C
    have HA := Lib.hid hA
    clear ht hf e1 e2 ha1 hb1 hb2 hs1 C hA
    go_wp2
    go_loopg [15] 256 (fun g s15 wr => ∃ k : Nat, s15 = .int .i64 k ∧ k ≤ 256 ∧ 256 - k ≤ g ∧ Hid (Arr wr w.heap.size (mix k f noB) ∧ But w.heap.size w2 wr))
    case atStart => exact ⟨0, rfl, Nat.zero_le _, by omega, Lib.hid ⟨by rw [mix_zero]; exact HA.out, But.refl⟩⟩
    case round =>
      obtain ⟨k, rfl, hk, hg, HI⟩ := hrel
      by_cases hlt : k < 256
      · have hwr := nat_u8 k hlt
        have C1 := Lib.hid (HC.out wr (Kp.of_but HI.out.2 (by rw [HS1.out]; omega)) k hlt)
        go_wp2
        refine C1.out.mono ?_
        rintro e w3 ⟨rfl, q, rfl⟩
        have hA3 : Arr (wr.drewN q) w.heap.size (mix k f noB) := HI.out.1.drewN q
        have hc := hA3.cell hlt
        have hst := setCell_put hA3 k (f k) hlt
        rw [mix_upd] at hst
        have hfz := hA3.frozen k
        have HP := Lib.hid (And.intro (putA_arr (g := mix (k + 1) f noB) hA3.lt) (putA_but (w := wr.drewN q) (b := w.heap.size) (g := mix (k + 1) f noB)))
        clear hA3
        go_wp2
        go_roundg (256 - (k + 1))
        case measure => omega
        case rel => exact ⟨k + 1, by go_num, by omega, by omega, Lib.hid ⟨HP.out.1, (HI.out.2.drewN q).trans HP.out.2⟩⟩
      · obtain rfl : k = 256 := by omega
        have hA' : Arr wr w.heap.size f := by have := HI.out.1; unfold Arr at this ⊢; rw [mix_end] at this; exact this
        go_wp2_with (first | (refine wpList_loadA rfl _ rfl _ rfl _ hA' ?_) | (refine wpList_storeA rfl _ _ rfl _ _ rfl rfl _ hA' ?_; intro w3 ha3 hb3))
        (try simp only [Exit.inBlock, Exit.then])
        refine bodyPost_ret (results_A2 rfl rfl ha3) rfl ?_
        exact ⟨(by rw [E.out.1, E.out.2]; rfl), HB.out.trans ((HI.out.2.trans hb3).below (Nat.le_refl _))⟩
end Go.Proofs.Ytmemdmjfccepgaa.cls
