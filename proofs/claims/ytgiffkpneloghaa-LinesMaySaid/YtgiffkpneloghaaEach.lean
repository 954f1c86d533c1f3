/- The lines of a text, told one by one (a range over a function). -/
import Derived.Test.YtgiffkpneloghaaCut
import Derived.RangeFuncBox
import Derived.RangeFuncLeaves
import Derived.Shelf.Abstract
import Derived.OwnWalkIn
import Derived.TacticsInMore
import Derived.LoopNIn
import Derived.LoopIn
import Derived.Maps.AppendAt
namespace Go.Proofs.Ytgiffkpneloghaa
open Go.RowKit Go.Shelf Go.Lib
attribute [local go_sem] Oper.semAt_some

abbrev encL (x : List UInt8 × Bool) : Array Value := #[.string (B x.1), .bool x.2]
theorem grownBy_drewN (w : World) (q : Nat) : w.grownBy (w.drewN q) none := ⟨rfl, rfl, rfl, Nat.le_refl _, fun _ _ _ => rfl⟩
theorem toList_B (l : List UInt8) : (B l).toList = l := by rw [Lib.toList_data]

set_option maxRecDepth 100000 in
set_option maxHeartbeats 1000000 in
theorem each1_in (n : Nat) (hn : 1 ≤ n) (l Bn : Nat) (t : List UInt8) (ht : t.length ≤ 9223372036854775806) (J Jx : List (List UInt8 × Bool) → World → Prop)
    (hJ : ∀ pre W q, J pre W → J pre (W.drewN q))
    (hY : ∀ pre x W, J pre W → pre.length < (lns t).length → YieldAt Fence.wide (n - 1) Try.prog l (encL x) W fun e W' =>
      (e = .returned (.bool true) ∧ J (pre ++ [x]) W') ∨ (e = .returned (.bool false) ∧ Jx (pre ++ [x]) W'))
    (W : World) (hBn : W.cell? ⟨Bn, 0, none⟩ = some (.string (B t))) (h0 : J [] W) :
    CallsIn Fence.wide n Try.prog 33 #[.func (.yield l) #[] #[], .pointer (some ⟨Bn, 0, none⟩)] W fun e W' => (∃ v, e = .returned v) ∧
      ((∃ ys, ys = lns t ∧ J ys W') ∨ (∃ pre, pre <+: lns t ∧ Jx pre W')) := by
  refine callsIn_of_wp Try.func33 rfl trivial ?_ rfl
  simp only [Try.ntmps33, List.size_toArray, List.length_cons, List.length_nil, Nat.reduceAdd, Nat.reduceSub, Array.replicate_succ, Array.replicate_zero, List.push_toArray, List.append_toArray, List.nil_append, List.cons_append]
  gi_wp2
  gi_loopw [3] (fun p wr => ∃ (pre : List (List UInt8 × Bool)) (r : List UInt8), p = .string (B r) ∧ lns t = pre ++ lns r ∧ r.length ≤ t.length ∧ J pre wr)
    (fun p _ => match p with | .string s => s.size | _ => 0)
  case atStart =>
    exact ⟨[], t, rfl, rfl, Nat.le_refl _, h0⟩
  case round =>
    obtain ⟨pre, r, rfl, hx, hl, hJs⟩ := hrel
    by_cases hr0 : r = []
    · subst hr0
      have HX := Lib.hid hx
      clear hx
      gi_wp2
      go_end0
      exact ⟨⟨_, rfl⟩, .inl ⟨pre, by rw [HX.out]; simp [lns], hJs⟩⟩
    · have hcut := lns_cut r hr0
      have hless := cut10_less r hr0
      have hsz : (B r).size ≤ 9223372036854775806 := by rw [B_size]; omega
      have e1 : r.isEmpty = false := by cases r; exact absurd rfl hr0; rfl
      have hlen : pre.length < (lns t).length := by rw [hx, hcut]; simp
      have HX := Lib.hid hx
      have HC := Lib.hid hcut
      have HR := Lib.hid hr0
      clear hx hcut hr0
      gi_wp2_with (refine ⟨trivial, ?_⟩; gi_at_call 34; refine (callsIn_wide.2 (cut34 (B r) wr hsz)).mono ?_; rintro e w' ⟨rfl, q, rfl⟩; obtain ⟨fn, tmps, assign, body, hy, hR⟩ := hY pre ((cut10 r).1, (cut10 r).2.2) (wr.drewN q) (hJ _ _ _ hJs) hlen; dsimp only [encL] at hy)
      refine hR.mono ?_
      rintro e W3 (⟨rfl, hJ3⟩ | ⟨rfl, hJx3⟩)
      · gi_wp2
        go_roundw
        case rel => exact ⟨pre ++ [((cut10 r).1, (cut10 r).2.2)], (cut10 r).2.1, rfl, by rw [HX.out, HC.out]; simp, by omega, hJ3⟩
        case measure => simp [B_size]; omega
      · gi_wp2
        refine bodyPost_ret (results_none rfl _ _ _) rfl ?_
        exact ⟨⟨_, rfl⟩, .inr ⟨pre ++ [((cut10 r).1, (cut10 r).2.2)], ⟨lns (cut10 r).2.1, by rw [HX.out, HC.out]; simp⟩, hJx3⟩⟩

set_option maxHeartbeats 1000000 in
/-- each(text): the text is boxed; the function value captures the box. -/
theorem each23_in (n : Nat) (t : ByteArray) (w : World) :
    CallsIn Fence.wide n Try.prog 23 #[.string t] w fun e w' => e = .returned (.func (.func 33) #[] #[.pointer (some ⟨w.heap.size, 0, none⟩)]) ∧ w' = w.alloc (.cells #[.string t] 9) := by
  refine callsIn_of_wp Try.func23 rfl trivial ?_ rfl
  simp only [Try.ntmps23, List.size_toArray, List.length_cons, List.length_nil, Nat.reduceAdd, Nat.reduceSub, Array.replicate_succ, Array.replicate_zero, List.push_toArray, List.append_toArray, List.nil_append, List.cons_append]
  gi_wp2
  go_ret
  exact ⟨rfl, rfl⟩

/-- each(text) hands back a value that tells all lines in order; or some of the first, where a round has said 'no more'. -/
theorem each_stops (n : Nat) (hn : 1 ≤ n) (Bn n₀ : Nat) (t : List UInt8) (ht : t.length ≤ 9223372036854775806) (w : World) (hBn : Bn < w.heap.size) (hc : w.cell? ⟨Bn, 0, none⟩ = some (.string (B t))) :
    SeqStopsK Fence.wide n Try.prog 33 #[.pointer (some ⟨Bn, 0, none⟩)] encL (Below n₀) (fun ys => ys = lns t) (fun pre => pre <+: lns t) (lns t).length w := fun l J Jx W hW hJ _ hY h0 =>
  each1_in n hn l Bn t ht J Jx (fun pre W q h => hJ pre W _ none h (grownBy_drewN W q) (by intro r e; cases e))
    (fun pre x W h hl => by
      obtain ⟨fn, tmps, assign, body, hy, hR⟩ := hY pre x W h hl
      exact ⟨fn, tmps, assign, body, hy, hR.mono fun _ _ h => h.imp (fun h => ⟨h.1, h.2.1⟩) id⟩) W ((hW.cell (p := ⟨Bn, 0, none⟩) hBn).trans hc) h0
end Go.Proofs.Ytgiffkpneloghaa
