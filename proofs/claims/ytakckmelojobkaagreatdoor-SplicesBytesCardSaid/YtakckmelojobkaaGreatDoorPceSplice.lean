/- Pieces: Clone, New, against, Splice, Compact. -/
import Derived.Test.YtakckmelojobkaaGreatDoorPceTable
import Derived.Lib.SliceRun
namespace Go.Proofs.YtakckmelojobkaaGreatDoor.pce
open Go.RowKit Go.Lib
set_option linter.unusedVariables false
set_option linter.unusedSimpArgs false
set_option linter.unnecessarySimpa false
set_option linter.unusedSectionVars false

set_option maxHeartbeats 1000000 in
set_option maxRecDepth 100000 in
theorem clone_is (w : World) (A : Option Addr) (n c : Nat) (zs : List ByteArray) (hn : n = zs.length) (hb : n ≤ 100000) (hA : A = none → c = 0) (h : SRd w w.heap.size A zs) :
    Calls Tryz.prog 34 #[.slice A n c] w fun e w' => ∃ x, e = .returned x ∧ Row w zs x w' := by
  rcases A with _ | ad
  · obtain rfl : c = 0 := hA rfl
    obtain rfl : zs = [] := by
      rcases Nat.eq_zero_or_pos zs.length with h0 | h0
      · exact List.eq_nil_of_length_eq_zero h0
      · obtain ⟨_, _, e, _⟩ := h h0
        cases e
    obtain rfl : n = 0 := hn
    clear h hA
    have q22 : ∀ (w : World) (a : Option Addr) (n c n' c' : Nat), (binOp .eql 22 (.slice a n c) (.slice none n' c')).run Tryz.prog w = .ok (.bool a.isNone) w := fun w a n c n' c' => Lib.run_eql_slice_nil w _ _ a n c n' c' Tryz.underlying22
    go_enter Tryz.func34, Tryz.ntmps34
    go_wp2
    go_ret
    exact ⟨_, rfl, none, 0, 0, rfl, rfl, World.ownsRow_nil _ _ _ _, Below.refl _ _⟩
  · have HN := Lib.hid hn
    clear hn
    have hL := World.ownsRow_lit (base := w.heap.size) (e := 9) (size := 1) w #[] 0 (Nat.le_refl _) (Nat.zero_le _) rfl
    have q22 : ∀ (w : World) (a : Option Addr) (n c n' c' : Nat), (binOp .eql 22 (.slice a n c) (.slice none n' c')).run Tryz.prog w = .ok (.bool a.isNone) w := fun w a n c n' c' => Lib.run_eql_slice_nil w _ _ a n c n' c' Tryz.underlying22
    go_enter Tryz.func34, Tryz.ntmps34
    go_wp2_with (at_builtin; refine wpList_append_list rfl (.tmp 5) (.tmp 6) rfl w.heap.size _ 0 [] rfl hL (some ad) n c _ zs rfl HN.out hA (h.alloc (Nat.le_refl _) _) (by omega) (by simp) ?_; intro v1 w1 hown1 hgrow1; obtain ⟨A1, c1, rfl⟩ := own_form hown1)
    have hB1 := ((Below.refl w.heap.size w).alloc (Nat.le_refl _) (.cells #[] 9)).grown hgrow1 (by simp) (fun k hk => (hL.lt k hk).1)
    go_ret
    rw [Nat.zero_add] at hown1
    exact ⟨_, rfl, A1, n, c1, by simp, HN.out, by simpa using hown1, hB1⟩

/-- The error that stands against a splice of a table of so many lines. -/
def splE (L : Nat) (at_ del : Int) (ins : List ByteArray) : Int :=
  if at_ < 0 ∨ del < 0 ∨ (L : Int) - at_ < del then 2 else if chk ins ≠ 0 then chk ins else if 2000 < (L : Int) - del + ins.length then 3 else 0
theorem splE_zero {L : Nat} {a d : Int} {ins : List ByteArray} (h : splE L a d ins = 0) : 0 ≤ a ∧ 0 ≤ d ∧ a + d ≤ L ∧ Fine ins ∧ (L : Int) - d + ins.length ≤ 2000 := by
  unfold splE at h
  split at h
  · cases h
  · split at h
    · rename_i h2; exact absurd h h2
    · split at h
      · cases h
      · rename_i h1 h2 h3
        exact ⟨by omega, by omega, by omega, fine_chk.1 (by simpa using h2), by omega⟩

/-- The three lists of pieces that a splice puts together. -/
theorem sg_pcs {w : World} {F : Nat → Prop} {A : Option Addr} {k c : Nat} {ps : List Pc} (h : Pcs w F A k c ps) : SgAt w F ⟨A, c, ps.map pv⟩ := ⟨h.nil, h.row, pv_one ps⟩

theorem three_text (ps : List Pc) (a d b : Nat) (ins : List ByteArray) : texts (btw 0 a ps ++ lone b 0 ins ++ btw ((a : Int) + d) ((texts ps).length : Nat) ps) = spl (texts ps) a d ins := by
  rw [texts_append, texts_append, btw_text, btw_text, lone_text]
  unfold spl
  rw [show ((a : Int) + d).toNat = a + d by omega, Int.toNat_natCast, Int.toNat_natCast, List.take_length]
  rfl
/-- How many pieces lines in one piece have. -/
def cnt (zs : List ByteArray) : Nat := if zs = [] then 0 else 1
end Go.Proofs.YtakckmelojobkaaGreatDoor.pce
