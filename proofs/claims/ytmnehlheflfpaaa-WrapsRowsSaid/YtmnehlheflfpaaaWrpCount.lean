/- Lines in rows: count; Same. -/
import Derived.Test.YtmnehlheflfpaaaWrpRoom
import Derived.Test.YtmnehlheflfpaaaWrpInts
import Derived.StillTailTactics
namespace Go.Proofs.Ytmnehlheflfpaaa.wrp
open Go.RowKit Go.Lib
set_option linter.unusedVariables false
set_option linter.unusedSimpArgs false
set_option linter.unnecessarySimpa false
set_option linter.unusedSectionVars false

theorem Room.start (w w1 : World) (cs : Array Value) (h : cs.size = 8) (hw : w1 = w.alloc (.cells cs 43)) : Room w.heap.size w1 w1 := by
  subst hw; exact ⟨⟨cs, h, At.new w 43 cs⟩, World.grownBy.refl _ _⟩
set_option maxHeartbeats 4000000 in
set_option maxRecDepth 100000 in
theorem count_is (l : List UInt8) (w : World) (hl : l.length ≤ 100000) : Calls Try.prog 21 #[.string (B l)] w fun e w' => e = .returned (.int .i64 ((cellsL l).length : Nat)) ∧ Below w.heap.size w w' := by
  obtain ⟨n, hn⟩ : ∃ n, n = l.length := ⟨_, rfl⟩
  have hsz : (B l).size = n := by rw [B_size, hn]
  have HN := Lib.hid hn
  have HI : Hid (∀ (k : Nat) (W : World), k < n → (Instr.index 9 (.string (B l)) (.int .i64 (k : Int))).run Try.prog W = .ok (.int .u8 ((l.getD k 0).toNat : Int)) W) := Lib.hid fun k W h => index_at l k _ rfl (by omega) W
  obtain ⟨s, hs⟩ : ∃ s, s = B l := ⟨_, rfl⟩
  rw [← hs] at hsz HI ⊢
  have hl' : n ≤ 100000 := by omega
  clear hs hl hn
  go_enter Try.func21, Try.ntmps21
  go_wp2
  have HR0 : Hid (Room w.heap.size (w.alloc (.cells #[.int .u8 0, .int .u8 0, .int .u8 0, .int .u8 0, .int .u8 0, .int .u8 0, .int .u8 0, .int .u8 0] 43)) (w.alloc (.cells #[.int .u8 0, .int .u8 0, .int .u8 0, .int .u8 0, .int .u8 0, .int .u8 0, .int .u8 0, .int .u8 0] 43))) := Lib.hid (Room.start w _ _ rfl rfl)
  have HB0 : Below w.heap.size w (w.alloc (.cells #[.int .u8 0, .int .u8 0, .int .u8 0, .int .u8 0, .int .u8 0, .int .u8 0, .int .u8 0, .int .u8 0] 43)) := (Below.refl _ _).alloc (Nat.le_refl _) _
  generalize w.alloc (.cells #[.int .u8 0, .int .u8 0, .int .u8 0, .int .u8 0, .int .u8 0, .int .u8 0, .int .u8 0, .int .u8 0] 43) = W0 at HR0 HB0 ⊢
  go_loopg [4, 5, 8] n (fun g s4 s5 s8 wr => ∃ k : Nat, k ≤ n ∧ n - k ≤ g ∧ s8 = .int .i64 k ∧ s4 = .int .i64 (atL l k : Nat) ∧ Below w.heap.size w wr ∧ Hid (Room w.heap.size wr wr))
  case atStart => exact ⟨0, Nat.zero_le _, by omega, rfl, rfl, HB0, HR0⟩
  case round =>
    obtain ⟨k, hk, hg, rfl, rfl, hB, HR⟩ := hrel
    clear HB0 HR0
    have hbd := at_bound l k (by have := HN.out; omega)
    have HB := Lib.hid hB
    clear hB
    by_cases hlt : k < n
    · have hidx := fun W => HI.out k W hlt
      have HA := Lib.hid (at_succ l k _ (getD_at l k (by have := HN.out; omega)))
      obtain ⟨b, hb⟩ : ∃ b, b = l.getD k 0 := ⟨_, rfl⟩
      rw [← hb] at hidx HA
      have ho8 := ofL_len b (atL l k)
      obtain ⟨m, hm⟩ : ∃ m, m = atL l k := ⟨_, rfl⟩
      rw [← hm] at hbd HA ho8 ⊢
      obtain ⟨q, hq⟩ : ∃ q, q = (ofL b m).length := ⟨_, rfl⟩
      rw [← hq] at HA ho8
      have HR' : Hid (Room w.heap.size wr.drew wr.drew) := Lib.hid ⟨HR.out.room, World.grownBy.refl _ _⟩
      have C : Hid (Calls Try.prog 19 #[.slice (some ⟨w.heap.size, 0, none⟩) 0 8, .int .u8 (b.toNat : Int), .int .i64 m] wr.drew (CountSays w.heap.size q wr.drew)) := Lib.hid (by rw [hq]; exact put_is w.heap.size b m wr.drew (by omega) HR'.out)
      clear hb hm hq
      go_wp2_with fail
      go_region_with ((go_at_call 19; refine C.out.mono ?_; rintro e w7 ⟨rfl, h7⟩))
      have NB : Hid (Below w.heap.size w w7) := Lib.hid ((below_drew HB.out).grown h7.grown HB.out.size (fun j e => by injection e with e; omega))
      have NR : Hid (Room w.heap.size w7 w7) := Lib.hid ⟨h7.room, World.grownBy.refl _ _⟩
      clear h7 C
      go_wp2
      trace_state
      go_roundg (n - (k + 1))
      case measure => omega
      case rel => exact ⟨k + 1, by omega, by omega, by go_num, by rw [HA.out]; go_num, NB.out, NR⟩
    · have hkn : k = n := by omega
      subst hkn
      have HT : Hid (atL l k = (cellsL l).length) := Lib.hid (by rw [HN.out, at_all])
      go_wp2
      go_ret
      exact ⟨by rw [← HT.out]; rfl, HB.out⟩
/-- Numbers in a row, as a row of one's own or one that was laid out. -/
def IsInts (w : World) (A : Option Addr) (ns : List Nat) : Prop := 0 < ns.length → ∃ b off, A = some ⟨b, off, none⟩ ∧ b < w.heap.size ∧ ∀ (j : Nat) (n : Nat), ns[j]? = some n → w.cell? ⟨b, off + j, none⟩ = some (.int .i64 (n : Int))
theorem IsInts.of_own {w : World} {base n c : Nat} {A : Option Addr} {ns : List Nat} (h : w.ownsRow base 3 1 (.slice A n c) n (ints ns)) : IsInts w A ns := fun hn => by
  have hl := h.1
  rw [ints_len, Nat.mul_one] at hl
  obtain ⟨g, cs, rfl, _, hA, hc⟩ := own_cells h (by omega)
  exact ⟨g, 0, rfl, hA.lt, fun j n hj => by rw [Nat.zero_add, hA.cell, hc j (.int .i64 (n : Int)) (by unfold ints; rw [List.getElem?_map, hj]; rfl)]⟩
theorem IsInts.below {w w' : World} {A : Option Addr} {ns : List Nat} (h : IsInts w A ns) (hB : Below w.heap.size w w') : IsInts w' A ns := fun hn => by
  obtain ⟨b, off, e, hb, hc⟩ := h hn
  exact ⟨b, off, e, Nat.lt_of_lt_of_le hb hB.size, fun j n hj => (hB.cell (p := ⟨b, off + j, none⟩) hb).trans (hc j n hj)⟩
set_option maxHeartbeats 4000000 in
set_option maxRecDepth 100000 in
theorem same_is (A1 A2 : Option Addr) (n1 n2 c1 c2 : Nat) (l1 l2 : List Nat) (w : World) (h1 : IsInts w A1 l1) (h2 : IsInts w A2 l2) (hn1 : n1 = l1.length) (hn2 : n2 = l2.length) (hm : n1 ≤ 1000000) (hm2 : n2 ≤ 1000000) (hv1 : ∀ x ∈ l1, x ≤ 1000000000) (hv2 : ∀ x ∈ l2, x ≤ 1000000000) :
    Calls Try.prog 11 #[.slice A1 n1 c1, .slice A2 n2 c2] w fun e w' => e = .returned (.bool (l1 == l2)) ∧ Below w.heap.size w w' := by
  have N1 := Lib.hid hn1
  have N2 := Lib.hid hn2
  have H1 := Lib.hid h1
  have H2 := Lib.hid h2
  clear h1 h2
  by_cases hne : n1 = n2
  · subst hne
    clear hn1 hn2
    go_enter Try.func11, Try.ntmps11
    go_wp2
    go_loopg [5] n1 (fun g s5 wr => ∃ k : Nat, k ≤ n1 ∧ n1 - k ≤ g ∧ s5 = .int .i64 k ∧ Below w.heap.size w wr ∧ Hid (l1.take k = l2.take k))
    case atStart => exact ⟨0, Nat.zero_le _, by omega, rfl, Below.refl _ _, Lib.hid rfl⟩
    case round =>
      obtain ⟨k, hk, hg, rfl, hB, HT⟩ := hrel
      by_cases hlt : k < n1
      · obtain ⟨x, hx⟩ : ∃ x, l1[k]? = some x := ⟨_, List.getElem?_eq_getElem (by rw [← N1.out]; exact hlt)⟩
        obtain ⟨y, hy⟩ : ∃ y, l2[k]? = some y := ⟨_, List.getElem?_eq_getElem (by rw [← N2.out]; exact hlt)⟩
        obtain ⟨b1, o1, rfl, hb1, g1⟩ := H1.out (by rw [← N1.out]; omega)
        obtain ⟨b2, o2, rfl, hb2, g2⟩ := H2.out (by rw [← N2.out]; omega)
        have e1 : wr.drew.cell? ⟨b1, o1 + k, none⟩ = some (.int .i64 (x : Int)) := (hB.cell (p := ⟨b1, o1 + k, none⟩) hb1).trans (g1 k x hx)
        have e2 : wr.drew.cell? ⟨b2, o2 + k, none⟩ = some (.int .i64 (y : Int)) := (hB.cell (p := ⟨b2, o2 + k, none⟩) hb2).trans (g2 k y hy)
        have HB := Lib.hid hB
        have HX := Lib.hid hx
        have HY := Lib.hid hy
        clear g1 g2 hB hx hy hv1 hv2
        have e1' : wr.cell? ⟨b1, o1 + k, none⟩ = some (.int .i64 (x : Int)) := e1
        have e2' : wr.cell? ⟨b2, o2 + k, none⟩ = some (.int .i64 (y : Int)) := e2
        by_cases hxy : x = y
        · subst hxy
          have NT : Hid (l1.take (k + 1) = l2.take (k + 1)) := Lib.hid (by rw [List.take_add_one, List.take_add_one, HT.out, HX.out, HY.out])
          clear HT
          go_wp2_with fail
          go_quiet (fail)
          go_wp2
          go_roundg (n1 - (k + 1))
          case measure => omega
          case rel => exact ⟨k + 1, by omega, by omega, by go_num, below_drewN HB.out _, NT⟩
        · have q : ((x : Int) == (y : Int)) = false := by simp; omega
          have hxy' : ¬ (x : Int) = (y : Int) := by omega
          have NE : Hid ((l1 == l2) = false) := Lib.hid (by
            rw [beq_eq_false_iff_ne]
            intro e
            have := HX.out
            rw [e, HY.out] at this
            exact hxy (Option.some.inj this).symm)
          clear HT
          go_wp2_with fail
          go_quiet (fail)
          go_wp2
          go_ret
          exact ⟨by rw [NE.out]; rfl, below_drewN HB.out _⟩
      · have hkn : k = n1 := by omega
        have EQ : Hid ((l1 == l2) = true) := Lib.hid (by
          rw [beq_iff_eq]
          have h1 : l1.take k = l1 := List.take_of_length_le (by rw [← N1.out]; omega)
          have h2 : l2.take k = l2 := List.take_of_length_le (by rw [← N2.out]; omega)
          rw [← h1, ← h2]; exact HT.out)
        clear HT hkn
        go_wp2
        go_ret
        exact ⟨by rw [EQ.out]; rfl, hB⟩
  · have NE : Hid ((l1 == l2) = false) := Lib.hid (by
      rw [beq_eq_false_iff_ne]
      intro e
      apply hne
      rw [N1.out, N2.out, e])
    have q : ((n1 : Int) == (n2 : Int)) = false := by simp; omega
    have q' : ¬ (n1 : Int) = (n2 : Int) := by omega
    clear hn1 hn2
    go_enter Try.func11, Try.ntmps11
    go_wp2
    go_ret
    exact ⟨by rw [NE.out]; rfl, Below.refl _ _⟩
end Go.Proofs.Ytmnehlheflfpaaa.wrp
