/- The law's examples come out: does() is true. -/
import Derived.Test.YtgiffkpneloghaaSplit
import Derived.Test.YtgiffkpneloghaaJoin
namespace Go.Proofs.Ytgiffkpneloghaa
open Go.RowKit Go.Shelf Go.Lib

theorem SRd.of_row {w : World} {base : Nat} {A : Option Addr} {m c : Nat} {zs more : List ByteArray} (hm : m = (zs ++ more).length) (h : w.ownsRow base 9 1 (.slice A m c) m ((zs ++ more).map Value.string)) : SRd w w.heap.size A zs := by
  intro hn
  have hm0 : 0 < m := by rw [hm, List.length_append]; omega
  obtain ⟨g, cap, hv, _, hlt⟩ := h.form hm0
  have hA : A = some ⟨g, 0, none⟩ := by injection hv
  subst hA
  refine ⟨g, 0, rfl, hlt, fun j hj => ?_⟩
  have := h.cells (g := g) rfl j (.string (zs.getD j ByteArray.empty)) (by
    rw [List.map_append, List.getElem?_append_left (by simpa using hj), List.getElem?_map, List.getElem?_eq_getElem hj]
    simp [List.getD, List.getElem?_eq_getElem hj])
  rwa [Go.WideShapes.add_plain] at this

theorem SRd.new (w : World) (zs : List ByteArray) (n₀ : Nat) (h : w.heap.size < n₀) : SRd (w.alloc (.cells (zs.map Value.string).toArray 9)) n₀ (some ⟨w.heap.size, 0, none⟩) zs := by
  intro hn
  refine ⟨_, _, rfl, h, fun j hj => ?_⟩
  have hb := heap_alloc_new w (.cells (zs.map Value.string).toArray 9)
  rw [cell_of_row _ _ _ _ _ _ hb]
  simp [List.getD, List.getElem?_eq_getElem hj]

/-- lines.Split, said by what its list reads as. -/
theorem split_reads (t : List UInt8) (ht : t.length ≤ 100000) (w : World) :
    Calls Try.prog 10 #[.string (B t)] w fun e W' => ∃ A c, e = .returned (.tuple #[.slice A (texts (lns t)).length c, .bool (last (lns t))]) ∧ W'.ownsRow w.heap.size 9 1 (.slice A (texts (lns t)).length c) (texts (lns t)).length ((texts (lns t)).map Value.string) ∧ SRd W' W'.heap.size A (texts (lns t)) ∧ Below w.heap.size w W' :=
  (split10 t ht w).mono fun e W' ⟨v, he, hr, hB⟩ => by
    obtain ⟨A, c, rfl⟩ : ∃ A c, v = .slice A (texts (lns t)).length c := by
      rcases hr.2 with ⟨hv, h0⟩ | ⟨g, cap, _, hv, _⟩
      · exact ⟨none, 0, by rw [hv, h0]⟩
      · exact ⟨_, _, hv⟩
    exact ⟨A, c, he, hr, SRd.of_row (zs := texts (lns t)) (more := []) (m := (texts (lns t)).length) (by simp) (by simpa using hr), hB⟩

theorem splitX (w : World) : Calls Try.prog 10 #[.string ⟨#[97, 10, 10, 98]⟩] w fun e W' => ∃ A c, e = .returned (.tuple #[.slice A 3 c, .bool false]) ∧ SRd W' W'.heap.size A [B [97], B [], B [98]] ∧ Below w.heap.size w W' :=
  (split_reads [97, 10, 10, 98] (by decide) w).mono fun _ _ ⟨A, c, he, _, hs, hB⟩ => ⟨A, c, he, hs, hB⟩
theorem splitY (w : World) : Calls Try.prog 10 #[.string ⟨#[97, 13, 10]⟩] w fun e W' => ∃ A c, e = .returned (.tuple #[.slice A 1 c, .bool true]) ∧ SRd W' W'.heap.size A [B [97, 13]] ∧ Below w.heap.size w W' :=
  (split_reads [97, 13, 10] (by decide) w).mono fun _ _ ⟨A, c, he, _, hs, hB⟩ => ⟨A, c, he, hs, hB⟩
theorem ne_XY : ¬ [B [97], B [], B [98]] = [B [97, 13]] := by simp

/-- A list against one that is written out. -/
theorem same12_lit (A : Option Addr) (c n m : Nat) (xs ys : List ByteArray) (w : World) (o : Obj) (b : Bool) (ho : o = .cells (ys.map Value.string).toArray 9) (hn : n = xs.length) (hm : m = ys.length) (hn1 : n ≤ 100000) (hm1 : m ≤ 100000) (hb : decide (xs = ys) = b) (h : SRd w w.heap.size A xs) :
    Calls Try.prog 12 #[.slice A n c, .slice (some ⟨w.heap.size, 0, none⟩) m m] (w.alloc o) fun e w' => e = .returned (.bool b) ∧ Below w.heap.size w w' := by
  subst ho hb
  refine (same12 A _ c m (w.heap.size + 1) n m xs ys _ hn hm (by omega) (by omega) ((h.alloc (Nat.le_refl _) _).more (by omega)) (SRd.new w ys _ (by omega))).mono ?_
  rintro e w' ⟨rfl, q, rfl⟩
  exact ⟨rfl, below_drewN ((Below.refl _ w).alloc (Nat.le_refl _) _) _⟩

/-- lines.Same of two lists, said by Below. -/
theorem same21_b (A1 A2 : Option Addr) (c d n m : Nat) (xs ys : List ByteArray) (w : World) (b : Bool) (hn : n = xs.length) (hm : m = ys.length) (hn1 : n ≤ 100000) (hm1 : m ≤ 100000) (hb : decide (xs = ys) = b) (h1 : SRd w w.heap.size A1 xs) (h2 : SRd w w.heap.size A2 ys) :
    Calls Try.prog 21 #[.slice A1 n c, .slice A2 m d] w fun e w' => e = .returned (.bool b) ∧ Below w.heap.size w w' := by
  subst hb
  refine (same21 A1 A2 c d w.heap.size n m xs ys _ hn hm (by omega) (by omega) h1 h2).mono ?_
  rintro e w' ⟨rfl, q, rfl⟩
  exact ⟨rfl, below_drewN (Below.refl _ w) _⟩
theorem same12_b (A1 A2 : Option Addr) (c d n m : Nat) (xs ys : List ByteArray) (w : World) (b : Bool) (hn : n = xs.length) (hm : m = ys.length) (hn1 : n ≤ 100000) (hm1 : m ≤ 100000) (hb : decide (xs = ys) = b) (h1 : SRd w w.heap.size A1 xs) (h2 : SRd w w.heap.size A2 ys) :
    Calls Try.prog 12 #[.slice A1 n c, .slice A2 m d] w fun e w' => e = .returned (.bool b) ∧ Below w.heap.size w w' := by
  subst hb
  refine (same12 A1 A2 c d w.heap.size n m xs ys _ hn hm (by omega) (by omega) h1 h2).mono ?_
  rintro e w' ⟨rfl, q, rfl⟩
  exact ⟨rfl, below_drewN (Below.refl _ w) _⟩

theorem joinX (A : Option Addr) (c : Nat) (w : World) (h1 : SRd w w.heap.size A [B [97], B [], B [98]]) :
    Calls Try.prog 16 #[.slice A 3 c] w fun e w' => e = .returned (.string ⟨#[97, 10, 10, 98, 10]⟩) ∧ Below w.heap.size w w' :=
  (join16 A c 3 [B [97], B [], B [98]] w rfl (by omega) (by decide) h1).mono fun _ _ ⟨he, hB⟩ => ⟨he, hB⟩

set_option maxHeartbeats 2000000 in
set_option maxRecDepth 100000 in
theorem does13 (w : World) : Calls Try.prog 13 #[] w fun e w' => e = .returned (.bool true) ∧ Below w.heap.size w w' := by
  go_enter Try.func13, Try.ntmps13
  go_wp2_with fail
  go_at_call 10
  refine (splitX _).mono ?_
  rintro e w1 ⟨A1, c1, rfl, h1, hB1⟩
  go_wp2_with fail
  go_at_call 10
  refine (splitY _).mono ?_
  rintro e w2 ⟨A2, c2, rfl, h2, hB2⟩
  have hz1 := hB1.size
  have hz2 := hB2.size
  have k1 := (h1.below hB2).more hz2
  have HB2 := hB1.trans (hB2.mono hz1)
  clear h1 hB1 hB2
  go_wp2_with fail
  go_at_call 12
  refine (same12_lit _ _ 3 3 [B [97], B [], B [98]] [B [97], B [], B [98]] w2 _ true rfl rfl rfl (by omega) (by omega) (by simp) k1).mono ?_
  rintro e w3 ⟨rfl, hB3⟩
  have hz3 := hB3.size
  have k2 := (k1.below hB3).more hz3
  have k3 := (h2.below hB3).more hz3
  have HB3 := HB2.trans (hB3.mono (by omega))
  clear k1 h2 hB3 HB2
  go_wp2_with fail
  go_at_call 12
  refine (same12_lit _ _ 1 1 [B [97, 13]] [B [97, 13]] w3 _ true rfl rfl rfl (by omega) (by omega) (by simp) k3).mono ?_
  rintro e w4 ⟨rfl, hB4⟩
  have hz4 := hB4.size
  have k4 := (k2.below hB4).more hz4
  have k5 := (k3.below hB4).more hz4
  have HB4 := HB3.trans (hB4.mono (by omega))
  clear k2 k3 hB4 HB3
  go_wp2_with fail
  go_at_call 16
  refine (joinX _ _ w4 k4).mono ?_
  rintro e w5 ⟨rfl, hB5⟩
  have hz5 := hB5.size
  have k6 := (k4.below hB5).more hz5
  have k7 := (k5.below hB5).more hz5
  have HB5 := HB4.trans (hB5.mono (by omega))
  clear k4 k5 hB5 HB4
  go_wp2_with fail
  go_at_call 21
  refine (same21_b _ _ _ _ 3 1 _ _ w5 false rfl rfl (by omega) (by omega) (by simp) k6 k7).mono ?_
  rintro e w6 ⟨rfl, hB6⟩
  have HB6 := HB5.trans (hB6.mono (by omega))
  clear k6 k7 hB6 HB5
  go_wp2
  go_ret
  exact ⟨rfl, HB6⟩
end Go.Proofs.Ytgiffkpneloghaa
