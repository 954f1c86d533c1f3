/- Lines in rows: lay, into a room of eight bytes: how many cells it lays. -/
import Derived.Test.YtmnehlheflfpaaaWrpLay
namespace Go.Proofs.Ytmnehlheflfpaaa.wrp
open Go.RowKit Go.Lib
set_option linter.unusedVariables false
set_option linter.unusedSimpArgs false
set_option linter.unnecessarySimpa false
set_option linter.unusedSectionVars false

/-- Block h is a room of eight bytes; since w0 no other block has turned. -/
structure Room (h : Nat) (w0 w : World) : Prop where
  room : ∃ cs : Array Value, cs.size = 8 ∧ At w h 43 cs
  grown : w0.grownBy w (some h)
theorem room_cells (h : Nat) (w0 : World) : ∀ (vs : List Value) (o : Nat) (w : World), Room h w0 w → Room h w0 (w.setCells h o vs)
  | [], _, _, H => H
  | v :: vs, o, w, H => by
    show Room h w0 ((w.setCell ⟨h, o, none⟩ v).setCells h (o + 1) vs)
    refine room_cells h w0 vs (o + 1) _ ⟨?_, ?_⟩
    · obtain ⟨cs, h1, h2⟩ := H.room
      exact ⟨_, by rw [Array.size_setIfInBounds]; exact h1, h2.set o v⟩
    · exact H.grown.trans ⟨rfl, rfl, rfl, by simp [World.setCell], fun k hk hne => Below.heap_setCell _ _ _ _ (by intro e; subst e; simp at hne)⟩
theorem wpList_room {ops : Array Oper} {rest : List Oper} {o : Oper} {a : Act} {Q : Exit → Act → World → Prop} {h : Nat} {w0 w : World} {cs : Array Value} (hgd : o.guard = none) (s x : Operand)
    (ho : o.op = .call { callee := .builtin .append, args := #[s, x], argTypes := #[37, 37] }) (hr : Room h w0 w) (n : Nat) (hs : a.eval s = .slice (some ⟨h, 0, none⟩) n 8)
    (H : Nat) (hH : w.heap.size = H) (m : Nat) (hx : a.eval x = .slice (some ⟨H, 0, none⟩) m m) (hm : cs.toList.length = m) (h1 : ∀ u ∈ cs.toList, u.oneCell' = true) (hn : n + m ≤ 8)
    (hk : ∀ w', Room h w0 w' → wpList Try.prog ops Q rest (a.put o.dst (.slice (some ⟨h, 0, none⟩) (n + m) 8)) w') : wpList Try.prog ops Q (o :: rest) a (w.alloc (.cells cs 5)) := by
  obtain ⟨i0, hi, hz1, hz2, hz0⟩ := info_parts info5
  subst hH
  refine wpList_plain hgd fun K hK' => ?_
  obtain ⟨cr, hcr, hA⟩ := hr.room
  have hA' := hA.alloc (.cells cs 5)
  have hrun := run_append_room_cells (P := Try.prog) (w.alloc (.cells cs 5)) 37 o.type 5 i0 Try.underlying37 hi h 0 n 8 ⟨w.heap.size, 0, none⟩ m m cs.toList (by rw [hz1]; omega) (fun j u hu => by
    rw [Go.WideShapes.add_plain, Nat.zero_add, (At.new w 5 cs).cell j, ← Array.getElem?_toList]; exact hu) h1 hn (fun j hj => by
    rw [hz1, hA'.cell, Array.getElem?_eq_getElem (by omega)]; rfl) (fun j hj => by rw [hA'.frozen])
  have hR : Room h w0 ((w.alloc (.cells cs 5)).setCells h (0 + n * i0.size) cs.toList) := room_cells h w0 _ _ _ ⟨⟨cr, hcr, hA'⟩, hr.grown.trans (World.grownBy_alloc w _ _)⟩
  unfold Oper.wp
  simp [execOp, ho, resolve, invoke, builtin, hs, hx, hrun, Result.andThen]
  exact hK' _ _ (hk _ (by simpa using hR))
def CountSays (h : Nat) (m : Nat) (w : World) (e : Ending) (w' : World) : Prop := e = .returned (.slice (some ⟨h, 0, none⟩) m 8) ∧ Room h w w'
set_option maxHeartbeats 4000000 in
set_option maxRecDepth 100000 in
theorem put_is (h : Nat) (b : UInt8) (ah : Nat) (w : World) (hah : ah ≤ 100000000) (hr : Room h w w) :
    Calls Try.prog 19 #[.slice (some ⟨h, 0, none⟩) 0 8, .int .u8 (b.toNat : Int), .int .i64 ah] w (CountSays h (ofL b ah).length w) := by
  have hb := Lib.hid hr
  clear hr
  by_cases h9 : b.toNat = 9
  · obtain rfl : b = 9 := UInt8.toNat_inj.1 h9
    have HO : Hid ((ofL 9 ah).length = 8 - ah % 8) := Lib.hid (by unfold ofL; rw [if_pos h9, List.length_replicate])
    obtain ⟨m, hm⟩ : ∃ m, m = 8 - ah % 8 := ⟨_, rfl⟩
    rw [← hm] at HO
    have hm8 : m ≤ 8 := by omega
    have hmi : 8 - (ah : Int) % 8 = (m : Int) := by omega
    have q1 : (((9 : UInt8).toNat : Int)) = 9 := rfl
    rw [q1]
    clear hm h9 q1
    go_enter Try.func19, Try.ntmps19
    go_wp2
    go_loopg [0, 22] m (fun g s0 s22 wr => ∃ j : Nat, j ≤ m ∧ m - j ≤ g ∧ s22 = .int .i64 j ∧ s0 = .slice (some ⟨h, 0, none⟩) j 8 ∧ Hid (Room h w wr))
    case atStart => exact ⟨0, Nat.zero_le _, by omega, rfl, rfl, hb⟩
    case round =>
      obtain ⟨j, hj, hg, rfl, rfl, HB⟩ := hrel
      by_cases hlt : j < m
      · go_wp2_with (refine wpList_room rfl (.tmp 24) _ rfl HB.out j rfl _ rfl 1 rfl rfl (by simp [Value.oneCell']) (by omega) ?_; intro w2 hb2; have hb2 := Lib.hid hb2)
        go_roundg (m - (j + 1))
        case measure => omega
        case rel => exact ⟨j + 1, by omega, by omega, by go_num, rfl, hb2⟩
      · have hjm : j = m := by omega
        subst hjm
        go_wp2
        go_ret
        exact ⟨by rw [HO.out]; rfl, HB.out⟩
  by_cases h1 : b.toNat < 32
  · have HO : Hid ((ofL b ah).length = 2) := Lib.hid (by unfold ofL; rw [if_neg h9, if_pos h1]; rfl)
    have q1 : ((b.toNat : Int) == 9) = false := by simp; omega
    have q2 : decide (127 < (b.toNat : Int)) = false := by simp; omega
    have q3 : ((b.toNat : Int) == 127) = false := by simp; omega
    have q4 : decide ((b.toNat : Int) < 32) = true := by simp; omega
    have hz : (b.toNat : Int) + 64 ≤ 255 := by omega
    clear h1 h9
    go_enter Try.func19, Try.ntmps19
    go_wp2_with (first
      | (refine wpList_room rfl (.tmp 41) _ rfl hb.out 0 rfl _ rfl 1 rfl rfl (by simp [Value.oneCell']) (by omega) ?_; intro w2 hb2; have hb2 := Lib.hid hb2)
      | (refine wpList_room rfl (.tmp 46) _ rfl hb2.out 1 rfl _ rfl 1 rfl rfl (by simp [Value.oneCell']) (by omega) ?_; intro w3 hb3; have hb3 := Lib.hid hb3)
      | fail "NONE")
    go_ret
    exact ⟨by rw [HO.out]; rfl, hb3.out⟩
  by_cases h2 : b.toNat = 127
  · obtain rfl : b = 127 := UInt8.toNat_inj.1 h2
    have HO : Hid ((ofL 127 ah).length = 2) := Lib.hid (by unfold ofL; rfl)
    have q1 : (((127 : UInt8).toNat : Int)) = 127 := rfl
    rw [q1]
    clear h1 h9 h2 q1
    go_enter Try.func19, Try.ntmps19
    go_wp2_with (first
      | (refine wpList_room rfl (.tmp 41) _ rfl hb.out 0 rfl _ rfl 1 rfl rfl (by simp [Value.oneCell']) (by omega) ?_; intro w2 hb2; have hb2 := Lib.hid hb2)
      | (refine wpList_room rfl (.tmp 46) _ rfl hb2.out 1 rfl _ rfl 1 rfl rfl (by simp [Value.oneCell']) (by omega) ?_; intro w3 hb3; have hb3 := Lib.hid hb3)
      | fail "NONE")
    go_ret
    exact ⟨by rw [HO.out]; rfl, hb3.out⟩
  by_cases h3 : 127 < b.toNat
  · have HO : Hid ((ofL b ah).length = 4) := Lib.hid (by unfold ofL; rw [if_neg h9, if_neg h1, if_neg h2, if_pos h3]; rfl)
    have q1 : ((b.toNat : Int) == 9) = false := by simp; omega
    have q2 : decide (127 < (b.toNat : Int)) = true := by simp; omega
    clear h1 h9 h2 h3
    go_enter Try.func19, Try.ntmps19
    go_wp2_with (refine wpList_room rfl (.tmp 28) _ rfl hb.out 0 rfl _ rfl 4 rfl rfl (by simp [Value.oneCell']) (by omega) ?_; intro w2 hb2; have hb2 := Lib.hid hb2)
    go_ret
    exact ⟨by rw [HO.out]; rfl, hb2.out⟩
  · have HO : Hid ((ofL b ah).length = 1) := Lib.hid (by unfold ofL; rw [if_neg h9, if_neg h1, if_neg h2, if_neg h3]; rfl)
    have q1 : ((b.toNat : Int) == 9) = false := by simp; omega
    have q2 : decide (127 < (b.toNat : Int)) = false := by simp; omega
    have q3 : ((b.toNat : Int) == 127) = false := by simp; omega
    have q4 : decide ((b.toNat : Int) < 32) = false := by simp; omega
    clear h1 h9 h2 h3
    go_enter Try.func19, Try.ntmps19
    go_wp2_with (refine wpList_room rfl (.tmp 46) _ rfl hb.out 0 rfl _ rfl 1 rfl rfl (by simp [Value.oneCell']) (by omega) ?_; intro w2 hb2; have hb2 := Lib.hid hb2)
    go_ret
    exact ⟨by rw [HO.out]; rfl, hb2.out⟩
end Go.Proofs.Ytmnehlheflfpaaa.wrp
