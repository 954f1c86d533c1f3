/- SavesNone, walked. -/
import Derived.Test.YtlbhegicapggeaaSavRun
namespace Go.Proofs.Ytlbhegicapggeaa.sav
open Go.RowKit Go.Lib Go.Maps Go.WideMaps fil
set_option linter.unusedVariables false
set_option linter.unusedSimpArgs false
set_option linter.unnecessarySimpa false
set_option linter.unusedSectionVars false

/-- A system that is off. -/
theorem off_write {s : St} (h : s.off = true) (nm t : List UInt8) : sWrite s nm t = (51, s) := by
  have e : sAgainst s nm = 51 := by unfold sAgainst; rw [if_pos h]
  unfold sWrite andThen
  rw [e, if_neg (show ¬ (51 : Int) = 0 by decide)]
theorem off_clean {s : St} (h : s.off = true) : sClean s = (51, s) := by
  unfold sClean sRemove stroke
  rw [if_pos h]; rfl
theorem off_load {s : St} (h : s.off = true) (nm : List UInt8) : sLoad s nm = ([], 51) := by
  unfold sLoad
  rw [if_pos h]
def dead : St := ⟨100, [], true, 0, none⟩
theorem dead_crash : sCrash (sNew 100) [] = (0, dead) := rfl

set_option maxHeartbeats 4000000 in
set_option maxRecDepth 100000 in
theorem lawNone (name text : ByteArray) (w : World) (hn : name.size ≤ maxLen) (ht : text.size ≤ maxLen)
    (hdoes : Hid (∀ W, Calls Try.prog 12 #[] W fun e w' => e = .returned (.bool true) ∧ Below W.heap.size W w')) :
    Calls Try.prog 3 #[.string name, .string text] w fun e w' => e = .returned (.bool true) ∧ Below w.heap.size w w' := by
  have hn9 : name.size ≤ 9223372036854775807 := by unfold maxLen at hn; omega
  have ht9 : text.size ≤ 9223372036854775807 := by unfold maxLen at ht; omega
  by_cases z1 : 1000 < name.size
  · clear hdoes
    go_enter Try.func3, Try.ntmps3
    go_wp2
    go_ret
    exact ⟨rfl, Below.refl _ _⟩
  by_cases z2 : 1000 < text.size
  · clear hdoes
    go_enter Try.func3, Try.ntmps3
    go_wp2
    go_ret
    exact ⟨rfl, Below.refl _ _⟩
  have L1 := Lib.hid (fun p W h => load_no p name W h)
  have W1 := Lib.hid (fun p W h => write_no p name text W h)
  have K1 := Lib.hid (fun p W h => clean_no p W h)
  go_enter Try.func3, Try.ntmps3
  go_wp2
  go_loopg [5] 3 (fun g s5 wr => ∃ i : Nat, s5 = .int .i64 i ∧ i ≤ 3 ∧ 3 - i ≤ g ∧ Below w.heap.size w wr)
  case atStart => exact ⟨0, rfl, by omega, by omega, Below.refl _ _⟩
  case round =>
    obtain ⟨i, rfl, hi, hg, hB⟩ := hrel
    have hz := hB.size
    by_cases hlt : i < 3
    · match i, hlt with
      | 0, _ =>
        have N0 : NoFs wr none := .inl rfl
        have C := Lib.hid (L1.out none wr N0)
        have C2 := Lib.hid (W1.out none wr N0)
        have C3 := Lib.hid (fun W => K1.out none W (.inl rfl))
        clear N0 L1 W1 K1 hdoes
        go_wp2_with fail
        go_at_call 9
        refine C.out.mono ?_
        rintro e w' ⟨rfl, rfl⟩
        go_wp2_with fail
        go_at_call 10
        refine C2.out.mono ?_
        rintro e w2 ⟨rfl, hB2⟩
        go_wp2_with fail
        go_at_call 11
        refine (C3.out w2).mono ?_
        rintro e w3 ⟨rfl, hB3⟩
        have hz2 := hB2.size
        have HB := hB.trans ((hB2.trans (hB3.mono hz2)).mono hz)
        go_wp2
        go_roundg (3 - (0 + 1))
        case measure => omega
        case rel => exact ⟨0 + 1, by go_num, by omega, by omega, HB⟩
      | 1, _ =>
        have hA : At (wr.alloc (.cells #[.int .i64 0, .map none, .bool false, .int .i64 0, .pointer none] 27)) wr.heap.size 27 #[.int .i64 0, .map none, .bool false, .int .i64 0, .pointer none] := At.new wr _ _
        have hB1 : Below wr.heap.size wr (wr.alloc (.cells #[.int .i64 0, .map none, .bool false, .int .i64 0, .pointer none] 27)) := (Below.refl _ wr).alloc (Nat.le_refl _) _
        have hzA : wr.heap.size + 1 = (wr.alloc (.cells #[.int .i64 0, .map none, .bool false, .int .i64 0, .pointer none] 27)).heap.size := by simp
        have C := L1.out (some ⟨wr.heap.size, 0, none⟩) _ (.inr ⟨_, rfl, hA⟩)
        have C2 := W1.out (some ⟨wr.heap.size, 0, none⟩) _ (.inr ⟨_, rfl, hA⟩)
        have C3 := Lib.hid (fun W (hW : At W wr.heap.size 27 #[.int .i64 0, .map none, .bool false, .int .i64 0, .pointer none]) => K1.out (some ⟨wr.heap.size, 0, none⟩) W (.inr ⟨_, rfl, hW⟩))
        have C := Lib.hid C
        have C2 := Lib.hid C2
        have HA := Lib.hid hA
        clear hA L1 W1 K1 hdoes
        go_wp2_with fail
        go_at_call 9
        refine C.out.mono ?_
        rintro e w' ⟨rfl, rfl⟩
        go_wp2_with fail
        go_at_call 10
        refine C2.out.mono ?_
        rintro e w2 ⟨rfl, hB2⟩
        go_wp2_with fail
        go_at_call 11
        refine (C3.out w2 (HA.out.same (hB2.block _ HA.out.lt))).mono ?_
        rintro e w3 ⟨rfl, hB3⟩
        have hz2 := hB2.size
        have HB := hB.trans ((hB1.trans ((hB2.trans (hB3.mono hz2)).mono (by omega))).mono hz)
        clear hzA
        go_wp2
        go_roundg (3 - (1 + 1))
        case measure => omega
        case rel => exact ⟨1 + 1, by go_num, by omega, by omega, HB⟩
      | 2, _ =>
        have CN := Lib.hid (new_run 100 wr (by omega) (by omega))
        clear L1 W1 K1 hdoes
        go_wp2_with fail
        go_at_call 7
        refine CN.out.mono ?_
        rintro e w1 ⟨rfl, hR⟩
        clear CN
        have CC := crash_run none 0 [] (by decide) (fun h0 => absurd h0 (by decide)) hR
        rw [dead_crash] at CC
        have CC := Lib.hid CC
        clear hR
        go_wp2_with fail
        go_at_call 8
        refine CC.out.mono ?_
        rintro e w2 ⟨rfl, hR⟩
        clear CC
        have C := load_run name hn hR
        rw [off_load rfl] at C
        have C := Lib.hid C
        have C2 := write_run name text hn ht hR
        rw [off_write rfl] at C2
        have C2 := Lib.hid C2
        clear hR
        go_wp2_with fail
        go_at_call 9
        refine C.out.mono ?_
        rintro e w' ⟨rfl, rfl⟩
        go_wp2_with fail
        go_at_call 10
        refine C2.out.mono ?_
        rintro e w3 ⟨rfl, hR⟩
        clear C C2
        have C3 := clean_run hR
        rw [off_clean rfl] at C3
        have C3 := Lib.hid C3
        clear hR
        go_wp2_with fail
        go_at_call 11
        refine C3.out.mono ?_
        rintro e w4 ⟨rfl, hR⟩
        have HB := hB.trans (hR.below.mono hz)
        clear C3 hR
        go_wp2
        go_roundg (3 - (2 + 1))
        case measure => omega
        case rel => exact ⟨2 + 1, by go_num, by omega, by omega, HB⟩
    · obtain rfl : i = 3 := by omega
      go_wp2_with fail
      go_at_call 12
      refine (hdoes.out _).mono ?_
      rintro e w9 ⟨rfl, hB9⟩
      go_wp2
      go_ret
      exact ⟨rfl, hB.trans (hB9.mono hz)⟩
end Go.Proofs.Ytlbhegicapggeaa.sav
