/- lines.Split: the lines of any text in new memory, and whether it has an end. -/
import Derived.Test.YtgiffkpneloghaaEach
import Derived.Test.YtgiffkpneloghaaTwin
import Derived.RangeFuncNested
import Derived.RegionIn
namespace Go.Proofs.Ytgiffkpneloghaa
open Go.RowKit Go.Shelf Go.Lib
attribute [local go_sem] Oper.semAt_some



def texts (pre : List (List UInt8 × Bool)) : List ByteArray := pre.map fun x => B x.1
def last (pre : List (List UInt8 × Bool)) : Bool := (pre.getLast?.map (·.2)).getD true

set_option maxRecDepth 100000 in
set_option maxHeartbeats 2000000 in
theorem split10_in (F : Fence) (t : List UInt8) (ht : t.length ≤ 100000) (h10 : F.fn 10) (h23 : F.fn 23) (h33 : F.fn 33) (hro : F.round = none)
    (C23 : ∀ (t : ByteArray) (w : World), CallsIn F 2 Try.prog 23 #[.string t] w fun e w' => e = .returned (.func (.func 33) #[] #[.pointer (some ⟨w.heap.size, 0, none⟩)]) ∧ w' = w.alloc (.cells #[.string t] 9))
    (C33 : ∀ (Bn n₀ : Nat) (w : World), Bn < w.heap.size → w.cell? ⟨Bn, 0, none⟩ = some (.string (B t)) → SeqStopsK F 2 Try.prog 33 #[.pointer (some ⟨Bn, 0, none⟩)] encL (Below n₀) (fun ys => ys = lns t) (fun pre => pre <+: lns t) (lns t).length w)
    (w : World) :
    CallsIn F 3 Try.prog 10 #[.string (B t)] w fun e W' => ∃ v, e = .returned (.tuple #[v, .bool (last (lns t))]) ∧ W'.ownsRow w.heap.size 9 1 v (texts (lns t)).length ((texts (lns t)).map Value.string) ∧ Below w.heap.size w W' := by
  have hlen := lns_len t
  have hml : (100000 : Nat) ≤ maxLen := by unfold maxLen; omega
  obtain ⟨i0, hi, hz0, hz1, hz2⟩ := info_parts info9
  refine callsIn_of_wp_marks Try.func10 rfl h10 ?_ hro
  simp only [Try.ntmps10, List.size_toArray, List.length_cons, List.length_nil, Nat.reduceAdd, Nat.reduceSub, Array.replicate_succ, Array.replicate_zero, List.push_toArray, List.append_toArray, List.nil_append, List.cons_append]
  gi_wp2_with (gi_at_call 23; refine (C23 _ _).mono ?_; rintro e w' ⟨rfl, rfl⟩)
  have bO := Boxed.new w 22 (.slice none 0 0)
  have bE := Boxed.new (w.alloc (.cells #[.slice none 0 0] 22)) 4 (.bool true)
  have bN := Boxed.new ((w.alloc (.cells #[.slice none 0 0] 22)).alloc (.cells #[.bool true] 4)) 9 (.string (B t))
  simp only [World.size_alloc] at bE bN
  have hB0 : Below w.heap.size w (((w.alloc (.cells #[.slice none 0 0] 22)).alloc (.cells #[.bool true] 4)).alloc (.cells #[.string (B t)] 9)) := (((Below.refl _ w).alloc (Nat.le_refl _) _).alloc (by simp) _).alloc (by simp; omega) _
  refine wpIn_rangeFunc_ownG hro (by omega) (gf := 33) (lb := #[.pointer (some ⟨w.heap.size + 1 + 1, 0, none⟩)]) rfl h33 (enters_of Try.func33 (by kernel_rfl) rfl)
    (C33 (w.heap.size + 1 + 1) w.heap.size _ (by simp) bN.cell) belowK_t (belowK_b (by simp; omega)) (Below.refl _ _) (fun _ => rfl)
    (fun pre W => ((∃ v, Boxed W w.heap.size 22 v ∧ W.ownsRow w.heap.size 9 1 v (texts pre).length ((texts pre).map Value.string) ∧ True) ∧ Boxed W (w.heap.size + 1) 4 (.bool (last pre))) ∧ Below w.heap.size w W)
    (fun _ _ _ => False)
    (OwnFrom.and (OwnFrom.and (Own.from (holdsRow_own w.heap.size w.heap.size 22 9 1 (fun pre => (texts pre).length) (fun pre => (texts pre).map Value.string) (fun _ _ => True)) _) (Own.from (boxed_own _ _ _) _)) (ownFrom_below (Nat.le_refl _) (by simp; omega)))
    (fun _ _ _ _ _ hs _ _ => hs)
    ⟨⟨⟨_, (bO.alloc _).alloc _, World.ownsRow_nil _ _ _ _, trivial⟩, bE.alloc _⟩, hB0⟩
    (fun x => { tmps := #[.string (B t), undef, .pointer (some ⟨w.heap.size, 0, none⟩), .pointer (some ⟨w.heap.size + 1, 0, none⟩), .string (B x.1), .bool x.2, .string (B t), .func (.func 33) #[] #[.pointer (some ⟨w.heap.size + 1 + 1, 0, none⟩)], .string (B x.1), .bool x.2, undef, undef, undef, undef, undef, undef, undef], defers := [] }) ?assign ?body ?done ?stop
  case assign =>
    intro l x W K hK
    gi_wp2
    exact hK
  case body =>
    rintro l pre x W ⟨⟨⟨v, hv, hrow, _⟩, hE⟩, hB⟩ hlt
    have hc := hv.cell
    have hpl : (texts pre).length ≤ pre.length := by simp [texts]
    gi_wp2_with (gi_at_builtin; refine wpListIn_append_own _ rfl _ _ 22 rfl w.heap.size 9 i0 (.string ⟨#[]⟩) 1 16 Try.underlying22 hi hz0 hz1 hz2 rfl (by decide) _ _ _ rfl (hrow.alloc _) ⟨W.heap.size, 0, none⟩ 1 1 [.string (B x.1)] rfl rfl (cell_one_new _ _ _) (one_str _) (by omega) (by omega) (by have := hB.size; simp; omega) ?_; intro v' w1 hown' hgrow _; obtain ⟨g', cap', rfl⟩ := ownsRow_succ hown'; obtain ⟨hv1, hv2, hr2, hk2, hb2⟩ := hv.appended (by decide) hrow hB.size (Nat.le_refl _) hown' hgrow; have hc1 := hv1.cell; have hf1 := hv1.frozen; have hE1 := (hE.alloc (.cells #[.string (B x.1)] 9)).kept hgrow (hE.not_row (by decide) hrow); have hE2 := Boxed.other (B' := w.heap.size) hE1 (by omega) (.slice (some ⟨g', 0, none⟩) ((texts pre).length + 1) cap'); have hc2 := hE2.cell; have hf2 := hE2.frozen)
    exact ⟨(hk2.trans (KeepsOthers.setCell _ _ _)).from _, hb2.trans ((Below.refl _ _).setCell (p := ⟨w.heap.size + 1, 0, none⟩) (by simp) _), ⟨⟨_, Boxed.other (B' := w.heap.size + 1) hv2 (by omega) _, by simpa [texts] using (hr2.kept (grownBy_setCell' _ _ _) (.inr (hE2.not_row (by decide) hr2).symm)), trivial⟩, by simpa [last] using hE2.set _⟩, (hB.trans hb2).trans ((Below.refl _ _).setCell (p := ⟨w.heap.size + 1, 0, none⟩) (by simp) _)⟩
  case done =>
    rintro D ys W hD rfl ⟨⟨⟨v, hv, hrow, _⟩, hE⟩, hB⟩ hK
    obtain ⟨A, m, c, rfl⟩ : ∃ A m c, v = .slice A m c := by
      rcases hrow.2 with ⟨rfl, _⟩ | ⟨g, cap, _, rfl, _⟩
      · exact ⟨_, _, _, rfl⟩
      · exact ⟨_, _, _, rfl⟩
    have hc := hv.cell
    have hf := hv.frozen
    have hc2 := hE.cell
    have hf2 := hE.frozen
    have hv1 := hv.set (.slice A m c)
    have hE1 := Boxed.other (B' := w.heap.size) hE (by omega) (.slice A m c)
    have hr1 := hrow.kept (grownBy_setCell' W w.heap.size (.slice A m c)) (.inr (hv.not_row (by decide) hrow).symm)
    have hk1 := (KeepsOthers.setCell W ⟨w.heap.size, 0, none⟩ (.slice A m c)).same D _ hK rfl
    have hB1 := hB.setCell (p := ⟨w.heap.size, 0, none⟩) (Nat.le_refl _) (.slice A m c)
    obtain ⟨W1, hW1⟩ : ∃ W1, W.setCell ⟨w.heap.size, 0, none⟩ (.slice A m c) = W1 := ⟨_, rfl⟩
    rw [hW1] at hv1 hE1 hr1 hk1 hB1
    have hv2 := Boxed.other (B' := w.heap.size + 1) hv1 (by omega) (.bool (last (lns t)))
    have hE2 := hE1.set (.bool (last (lns t)))
    have hr2 := hr1.kept (grownBy_setCell' W1 (w.heap.size + 1) (.bool (last (lns t)))) (.inr (hE1.not_row (by decide) hr1).symm)
    have hk2 := (KeepsOthers.setCell W1 ⟨w.heap.size + 1, 0, none⟩ (.bool (last (lns t)))).same D _ hk1 rfl
    have hB2 := hB1.setCell (p := ⟨w.heap.size + 1, 0, none⟩) (by simp) (.bool (last (lns t)))
    rw [← hW1] at hv2 hE2 hr2 hk2 hB2
    have hB3 := below_drew hB2
    clear hW1 hv1 hE1 hr1 hk1 hB1 hB2
    obtain ⟨W2, hW2⟩ : ∃ W2, ((W.setCell ⟨w.heap.size, 0, none⟩ (.slice A m c)).setCell ⟨w.heap.size + 1, 0, none⟩ (.bool (last (lns t)))).drew = W2 := ⟨_, rfl⟩
    have hv3 : Boxed W2 w.heap.size 22 (.slice A m c) := by rw [← hW2]; exact hv2
    have hE3 : Boxed W2 (w.heap.size + 1) 4 (.bool (last (lns t))) := by rw [← hW2]; exact hE2
    have hr3 : W2.ownsRow w.heap.size 9 1 (.slice A m c) (texts (lns t)).length ((texts (lns t)).map Value.string) := by rw [← hW2]; exact hr2
    have hk3 : W2.heap[D]? = some (.deferred (some [])) := by rw [← hW2]; exact hk2
    rw [hW2] at hB3
    have hc5 := cell_kept hv3.cell (grownBy_putObj' _ D (.deferred none)) (fun r e => by cases e; exact ⟨_, hk3, rfl⟩)
    have hc6 := cell_kept hE3.cell (grownBy_putObj' _ D (.deferred none)) (fun r e => by cases e; exact ⟨_, hk3, rfl⟩)
    have HW := Lib.hid hW2
    have HF : Hid (∃ v, Ending.returned (.tuple #[.slice A m c, .bool (last (lns t))]) = .returned (.tuple #[v, .bool (last (lns t))]) ∧ (W2.putObj D (.deferred none)).ownsRow w.heap.size 9 1 v (texts (lns t)).length ((texts (lns t)).map Value.string) ∧ Below w.heap.size w (W2.putObj D (.deferred none))) :=
      Lib.hid ⟨_, rfl, ownsRow_putObj hr3 _ hk3 rfl, hB3.trans (belowK_b (w := w) (Nat.le_refl _) W2 D _ _ (by simp at hD; omega) hk3 rfl rfl)⟩
    have HK := Lib.hid hk3
    have H5 := Lib.hid hc5
    have H6 := Lib.hid hc6
    clear hv2 hE2 hr2 hk2 hW2 hv3 hE3 hr3 hk3 hB3 hc5 hc6 hB0
    gi_wp2
    gi_region
    all_goals gi_wp2
    all_goals rw [HW.out]
    all_goals refine ⟨by simp, .inl ⟨_, _, rfl, run_takeDeferred HK.out, ?_⟩⟩
    all_goals refine ⟨.tuple #[.slice A m c, .bool (last (lns t))], ?_, HF.out⟩
    all_goals simp [results, Try.f10, go_sem, H5.out, H6.out]
  case stop =>
    rintro D c pre W _ _ h _
    exact h.elim

/-- lines.Split. -/
theorem split10 (t : List UInt8) (ht : t.length ≤ 100000) (w : World) :
    Calls Try.prog 10 #[.string (B t)] w fun e W' => ∃ v, e = .returned (.tuple #[v, .bool (last (lns t))]) ∧ W'.ownsRow w.heap.size 9 1 v (texts (lns t)).length ((texts (lns t)).map Value.string) ∧ Below w.heap.size w W' :=
  callsIn_wide.1 (split10_in Fence.wide t ht trivial trivial trivial rfl (fun t w => each23_in 2 t w) (fun Bn n₀ w h1 h2 => each_stops 2 (by omega) Bn n₀ t (by omega) w h1 h2) w)
end Go.Proofs.Ytgiffkpneloghaa
