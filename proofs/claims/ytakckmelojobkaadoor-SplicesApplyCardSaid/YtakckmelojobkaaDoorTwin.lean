/- The law's Twin: the same lines in memory of their own, with a star behind them; the law's Left. -/
import Derived.Test.YtakckmelojobkaaDoorSame
import Derived.OwnWalk
import Derived.Laws.AppendOwnNone
import Derived.Maps.AppendAt
import Derived.RangeFuncBox
namespace Go.Proofs.YtakckmelojobkaaDoor
open Go.RowKit Go.Lib

theorem info9 : (Tryd.prog.info? 9).map (fun i => (i.zero, i.size, i.bytes)) = some (some (.string ⟨#[]⟩), 1, 16) := by kernel_rfl
theorem one_str (s : ByteArray) : ∀ u ∈ [Value.string s], u.oneCell' = true := by intro u hu; simp only [List.mem_singleton] at hu; subst hu; rfl
theorem one_strs (zs : List ByteArray) : ∀ u ∈ zs.map Value.string, u.oneCell' = true := by
  intro u hu; obtain ⟨s, _, rfl⟩ := List.mem_map.1 hu; rfl
abbrev star : ByteArray := ⟨#[42]⟩

theorem own_cap {w : World} {base : Nat} {e : TypeId} {a : Addr} {n cap : Nat} {xs : List Value} (h : w.ownsRow base e 1 (.slice (some a) n cap) n xs) : n ≤ cap ∧ cap ≤ maxLen := by
  rcases h.2 with ⟨h, _⟩ | ⟨g, cap', cur, hv, _, _, h1, h2, _⟩
  · cases h
  · injection hv with _ _ hv
    subst hv
    exact ⟨h1, h2⟩

/-- A row of one's own: the lines, and a star behind. -/
def TwinAt (w : World) (zs : List ByteArray) (v : Value) (w' : World) : Prop :=
  ∃ g cap, v = .slice (some ⟨g, 0, none⟩) zs.length cap ∧ w'.ownsRow w.heap.size 9 1 (.slice (some ⟨g, 0, none⟩) (zs.length + 1) cap) (zs.length + 1) ((zs ++ [star]).map Value.string) ∧ Below w.heap.size w w'

set_option maxHeartbeats 2000000 in
set_option maxRecDepth 100000 in
theorem twin15 (A : Option Addr) (c n : Nat) (zs : List ByteArray) (w : World) (hn : n = zs.length) (hc0 : A = none → c = 0) (hb1 : n ≤ 100000) (h1 : SRd w w.heap.size A zs) :
    Calls Tryd.prog 11 #[.slice A n c] w fun e w' => ∃ v, e = .returned v ∧ TwinAt w zs v w' := by
  obtain ⟨i0, hi, hz0, hz1, hz2⟩ := info_parts info9
  have hml : (1000000 : Nat) ≤ maxLen := by unfold maxLen; omega
  have H1 := Lib.hid hn
  have hlen : (zs.map Value.string).length ≤ n := by rw [List.length_map, hn]; exact Nat.le_refl _
  clear hn
  rcases A with _ | ad
  · obtain rfl : n = 0 := by
      rcases Nat.eq_zero_or_pos n with h0 | h0
      · exact h0
      · obtain ⟨_, _, h, _⟩ := h1 (by rw [← H1.out]; exact h0)
        cases h
    obtain rfl : c = 0 := hc0 rfl
    obtain rfl : zs = [] := List.eq_nil_of_length_eq_zero H1.out.symm
    clear h1 hc0 hlen H1
    go_enter Tryd.func11, Tryd.ntmps11
    go_wp2_with (first
      | (at_make; refine wpList_make_own _ rfl _ _ 22 rfl w.heap.size 9 i0 (.string ⟨#[]⟩) 1 Tryd.underlying22 hi hz0 hz1 .i64 .i64 _ (0 + 1) rfl rfl (by simp) (by rw [hz2]; omega) (by omega) (Nat.le_refl _) ?_; intro w1 hown1 hgrow1; have hs1 := hgrow1.size)
      | (at_builtin; refine wpList_append_own_none rfl (.tmp 6) (.tmp 7) 22 rfl w.heap.size 9 i0 1 Tryd.underlying22 hi _ _ _ rfl hown1 rfl ?_)
      | (at_builtin; refine wpList_append_own _ rfl (.tmp 8) (.tmp 9) 22 rfl w.heap.size 9 i0 (.string ⟨#[]⟩) 1 16 Tryd.underlying22 hi hz0 hz1 hz2 rfl (by decide) _ _ _ rfl (hown1.alloc _) ⟨w1.heap.size, 0, none⟩ 1 1 [.string star] rfl rfl (cell_one_new _ _ _) (one_str _) (by omega) (by omega) (by simp; omega) ?_; intro v2 w2 hown2 hgrow2 _; obtain ⟨g', cap', rfl⟩ := ownsRow_succ hown2; have hcap := (own_cap hown2).1))
    have hg2 : (w1.alloc (.cells #[.string star] 9)).grownBy w2 (some w.heap.size) := hgrow2
    go_ret
    exact ⟨_, rfl, g', cap', rfl, hown2, (((Below.refl _ w).grown hgrow1 (Nat.le_refl _) (fun k e => by cases e)).alloc hs1 _).grown hg2 (by simp; omega) (fun k e => by cases e; exact Nat.le_refl _)⟩
  · have HC : Hid (∀ W, Below w.heap.size w W → ∀ j u, (zs.map Value.string)[j]? = some u → W.cell? (ad.add j) = some u) := Lib.hid (fun W hW j u hu => by
      obtain ⟨hj, hu⟩ := List.getElem?_eq_some_iff.1 hu
      have hj' : j < zs.length := by simpa using hj
      obtain ⟨b, off, e, hb, hcell⟩ := (h1.below hW) (by omega)
      injection e with e
      subst e
      have := hcell j hj'
      rw [Go.WideShapes.add_plain, this, ← hu]
      simp [List.getD, List.getElem?_eq_getElem hj'])
    have HL : Hid ((zs.map Value.string).length = n * 1) := Lib.hid (by rw [List.length_map, ← H1.out]; omega)
    clear h1 hc0 hlen
    go_enter Tryd.func11, Tryd.ntmps11
    go_wp2_with (first
      | (at_make; refine wpList_make_own _ rfl _ _ 22 rfl w.heap.size 9 i0 (.string ⟨#[]⟩) 1 Tryd.underlying22 hi hz0 hz1 .i64 .i64 _ (n + 1) rfl rfl (by simp) (by rw [hz2]; omega) (by omega) (Nat.le_refl _) ?_; intro w1 hown1 hgrow1; have hs1 := hgrow1.size; have hB1 := (Below.refl w.heap.size w).grown hgrow1 (Nat.le_refl _) (fun k e => by cases e))
      | (at_builtin; refine wpList_append_own _ rfl (.tmp 6) (.tmp 7) 22 rfl w.heap.size 9 i0 (.string ⟨#[]⟩) 1 16 Tryd.underlying22 hi hz0 hz1 hz2 rfl (by decide) _ _ _ rfl hown1 ad n c (zs.map Value.string) rfl HL.out (HC.out _ hB1) (one_strs _) (by omega) (by omega) hs1 ?_; intro v2 w2 hown2 hgrow2 _; have hs2 := hgrow2.size; have hB2 := hB1.grown hgrow2 hs1 (fun k hk => (hown1.lt k hk).1))
      | (at_builtin; refine wpList_append_own _ rfl (.tmp 8) (.tmp 9) 22 rfl w.heap.size 9 i0 (.string ⟨#[]⟩) 1 16 Tryd.underlying22 hi hz0 hz1 hz2 rfl (by decide) _ _ _ rfl (hown2.alloc _) ⟨w2.heap.size, 0, none⟩ 1 1 [.string star] rfl rfl (cell_one_new _ _ _) (one_str _) (by omega) (by omega) (by simp; omega) ?_; intro v3 w3 hown3 hgrow3 _; obtain ⟨g', cap', rfl⟩ := ownsRow_succ hown3; have hcap := (own_cap hown3).1))
    have hB3 := (hB2.alloc (by omega) (.cells #[.string star] 9)).grown hgrow3 (by simp; omega) (fun k hk => (hown2.lt k hk).1)
    go_ret
    refine ⟨_, rfl, g', cap', ?_, ?_, hB3⟩
    · rw [← H1.out]; rfl
    · rw [← H1.out, List.map_append]; simpa using hown3
end Go.Proofs.YtakckmelojobkaaDoor
