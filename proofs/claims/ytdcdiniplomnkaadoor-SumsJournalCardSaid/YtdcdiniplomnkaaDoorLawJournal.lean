/- SumsJournal, walked. -/
import Derived.Test.YtdcdiniplomnkaaDoorHex
import Derived.Deep.QuietTactic
import Derived.BigQuiet
namespace Go.Proofs.YtdcdiniplomnkaaDoor
open Go.RowKit Go.Lib

theorem grow_sum (a z : ByteArray) : joinI (sumN a.data.toList) (sumN z.data.toList) z.size = sumN (a ++ z).data.toList := by
  rw [joinI_nat, ← size_list z, joinN_sum]; simp
/-- What holds of the world at each round's head. -/
def Held (w : World) (A : Option Addr) (zs : List ByteArray) (wr : World) : Prop := Below w.heap.size w wr ∧ Vars wr.heap.size wr ∧ SRd wr w.heap.size A zs
theorem Held.drewN {w wr : World} {A : Option Addr} {zs : List ByteArray} (h : Held w A zs wr) (q : Nat) : Held w A zs (wr.drewN q) := ⟨below_drewN h.1 q, h.2.1, h.2.2.drewN q⟩

set_option maxHeartbeats 4000000 in
set_option maxRecDepth 100000 in
theorem law5 (A : Option Addr) (c n : Nat) (zs : List ByteArray) (w : World) (hn : n = zs.length) (hb1 : n ≤ maxLen) (hzs : ∀ z ∈ zs, z.size ≤ maxLen) (h1 : SRd w w.heap.size A zs) (hV : Vars w.heap.size w) :
    Calls Tryd.prog 5 #[.slice A n c] w fun e w' => e = .returned (.bool true) ∧ Below w.heap.size w w' := by
  have hb2 : n ≤ 9223372036854775807 := by unfold maxLen at hb1; omega
  have HN := Lib.hid hn
  have HZS := Lib.hid hzs
  have H0 : Held w A zs w := ⟨Below.refl _ w, hV, h1⟩
  clear hn hzs h1 hV hb1
  go_enter Tryd.func5, Tryd.ntmps5
  go_wp2
  go_loopg [3, 4, 5, 6] n (fun g s3 s4 s5 s6 wr => ∃ (k S : Nat) (a : ByteArray), k ≤ n ∧ n - k ≤ g ∧ s6 = .int .i64 k ∧ s3 = .string a ∧ s4 = .int .u32 S ∧ s5 = .int .u32 S ∧ a.size ≤ 20000 ∧ S = sumN a.data.toList ∧ Held w A zs wr)
  case atStart => exact ⟨0, 0, ⟨#[]⟩, Nat.zero_le _, by omega, rfl, rfl, rfl, rfl, by decide, rfl, H0⟩
  case round =>
    obtain ⟨k, S0, a, hk, hg, rfl, rfl, rfl, rfl, ha, hS, HH⟩ := hrel
    have HS := Lib.hid hS
    clear hS H0
    by_cases hlt : k < n
    · obtain ⟨p1, o1, rfl, _, hc1⟩ := HH.2.2 (by rw [← HN.out]; omega)
      have g1 : wr.cell? ⟨p1, o1 + k, none⟩ = some (.string (zs.getD k ByteArray.empty)) := hc1 k (by rw [← HN.out]; omega)
      have hsz : (zs.getD k ByteArray.empty).size ≤ maxLen := HZS.out _ (by
        have hkz : k < zs.length := by rw [← HN.out]; exact hlt
        simp [List.getD, List.getElem?_eq_getElem hkz])
      clear hc1
      generalize zs.getD k ByteArray.empty = z at g1 hsz
      have hsz' : z.size ≤ 9223372036854775807 := by unfold maxLen at hsz; omega
      by_cases h40 : 40 ≤ k
      · go_wp2_with fail
        go_at_call 10
        refine (told10 _ HH.2.1).mono ?_
        rintro e w' ⟨rfl, hB⟩
        go_wp2
        go_ret
        exact ⟨rfl, HH.1.trans (hB.mono HH.1.size)⟩
      by_cases hbig : (20000 : Int) - (a.size : Int) < (z.size : Int)
      · go_wp2_with fail
        go_at_call 10
        refine (told10 _ HH.2.1).mono ?_
        rintro e w' ⟨rfl, hB⟩
        go_wp2
        go_ret
        exact ⟨rfl, HH.1.trans (hB.mono HH.1.size)⟩
      · have haz : a.size + z.size ≤ 20000 := by omega
        have haz' : (a ++ z).size ≤ 20000 := by simp; omega
        have s0 := sumN_lt a.data.toList
        have c1 := fun w => more13 (sumN a.data.toList) z w s0 hsz
        have c2 := fun w => sum11 z w hsz
        have c3 := fun w => join15 (sumN a.data.toList) (sumN z.data.toList) z.size w s0 (sumN_lt _) (by omega) (by omega)
        have c4 := fun w => sum11 (a ++ z) w (by unfold maxLen; omega)
        rw [grow_sum] at c1 c3
        rw [← HS.out] at c1 c3
        generalize hS1 : sumN z.data.toList = S1 at c2 c3
        generalize hS2 : sumN (a ++ z).data.toList = S2 at c1 c3 c4
        have HS2 := Lib.hid hS2
        clear hS1 hS2 s0 haz'
        go_wp2_with fail
        go_at_call 13
        refine (c1 _).mono ?_
        rintro e w' ⟨rfl, rfl⟩
        go_wp2_with fail
        go_quiet (first | (go_at_call 11; exact Calls.quiet_of_same ((c2 _).mono fun _ _ h => ⟨h.1, h.2.symm⟩)) | (go_at_call 15; exact Calls.quiet_of_same ((c3 _).mono fun _ _ h => ⟨h.1, h.2.symm⟩)))
        go_wp2_with fail
        go_at_call 11
        refine (c4 _).mono ?_
        rintro e w' ⟨rfl, rfl⟩
        clear c1 c2 c3 c4
        go_wp2
        go_roundg (n - (k + 1))
        case measure => omega
        case rel => exact ⟨k + 1, S2, a ++ z, by omega, by omega, by go_num, rfl, rfl, rfl, by simp; omega, HS2.out.symm, HH.drewN _⟩
    · have hkn : k = n := by omega
      subst hkn
      go_wp2_with fail
      go_at_call 10
      refine (told10 _ HH.2.1).mono ?_
      rintro e w' ⟨rfl, hB⟩
      go_wp2
      go_ret
      exact ⟨rfl, HH.1.trans (hB.mono HH.1.size)⟩
end Go.Proofs.YtdcdiniplomnkaaDoor
