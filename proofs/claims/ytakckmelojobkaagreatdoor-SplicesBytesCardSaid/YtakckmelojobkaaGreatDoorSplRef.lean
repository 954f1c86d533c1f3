/- Splices: the document's Check and Apply. -/
import Derived.Test.YtakckmelojobkaaGreatDoorSplInv
namespace Go.Proofs.YtakckmelojobkaaGreatDoor.sps
open Go.RowKit Go.Lib pce
set_option linter.unusedVariables false
set_option linter.unusedSimpArgs false
set_option linter.unnecessarySimpa false
set_option linter.unusedSectionVars false

set_option maxHeartbeats 1000000 in
set_option maxRecDepth 100000 in
theorem refCheck_is (a d : Int) (A : Option Addr) (n c : Nat) (ins : List ByteArray) (w : World) (k : Int) (hk : chkS a d ins = k) (ha1 : -9223372036854775808 ≤ a) (ha2 : a ≤ 9223372036854775807) (hd1 : -9223372036854775808 ≤ d) (hd2 : d ≤ 9223372036854775807)
    (hn : n = ins.length) (hb : n ≤ 100000) (hz : ∀ z ∈ ins, z.size ≤ maxLen) (h : SRd w w.heap.size A ins) :
    Calls Tryz.prog 15 #[.agg #[.int .i64 a, .int .i64 d, .slice A n c]] w fun e w' => e = .returned (.int .i64 k) ∧ Below w.heap.size w w' := by
  have C := Lib.hid (fun (W : World) (q : Int) (hq : chk ins = q) (hW : Below w.heap.size w W) => refChk A c n ins W q hq hn hb hz ((h.below hW).more hW.size))
  have HK := Lib.hid hk
  clear hk hn h hz
  by_cases h1 : a < 0
  · obtain rfl : k = 2 := by have := HK.out; unfold chkS at this; rw [if_pos (.inl h1)] at this; exact this.symm
    go_enter Tryz.func15, Tryz.ntmps15
    go_wp2
    go_ret
    exact ⟨rfl, (Below.refl _ _).alloc (Nat.le_refl _) _⟩
  by_cases h2 : d < 0
  · obtain rfl : k = 2 := by have := HK.out; unfold chkS at this; rw [if_pos (.inr h2)] at this; exact this.symm
    go_enter Tryz.func15, Tryz.ntmps15
    go_wp2
    go_ret
    exact ⟨rfl, (Below.refl _ _).alloc (Nat.le_refl _) _⟩
  have HC : Hid (chk ins = k) := Lib.hid (by have := HK.out; unfold chkS at this; rw [if_neg (by omega)] at this; exact this)
  go_enter Tryz.func15, Tryz.ntmps15
  go_wp2_with fail
  go_at_call 28
  have hB0 : Below w.heap.size w (w.alloc (.cells #[.int .i64 a, .int .i64 d, .slice A n c] 24)) := (Below.refl _ _).alloc (Nat.le_refl _) _
  refine (C.out _ k HC.out hB0).mono ?_
  rintro e w1 ⟨rfl, hw1⟩
  have hw1 := hw1.symm
  subst hw1
  have HB := Lib.hid hB0
  go_wp2
  go_ret
  exact ⟨rfl, HB.out⟩

theorem below_box {w wb W : World} {v : Array Value} (hw : w.alloc (.cells v 24) = wb) (hB : Below wb.heap.size wb W) : Below w.heap.size w W ∧ At W w.heap.size 24 v ∧ w.heap.size + 1 ≤ W.heap.size := by
  subst hw
  have hz := hB.size
  have hA := At.new w 24 v
  exact ⟨((Below.refl _ _).alloc (Nat.le_refl _) _).trans (hB.mono (by simp)), hA.same (hB.block _ hA.lt), by simpa using hz⟩

end Go.Proofs.YtakckmelojobkaaGreatDoor.sps
