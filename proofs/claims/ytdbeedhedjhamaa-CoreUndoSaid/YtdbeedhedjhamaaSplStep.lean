/- Splices: splice (of lines that may be), Apply, of the program. -/
import Derived.Test.YtdbeedhedjhamaaSplCheck
import Derived.StillTailTactics
namespace Go.Proofs.Ytdbeedhedjhamaa.sps
open Go.RowKit Go.Lib pce
set_option linter.unusedVariables false
set_option linter.unusedSimpArgs false
set_option linter.unnecessarySimpa false
set_option linter.unusedSectionVars false

/-- Three lists that are put together. -/
theorem concat_lists (w : World) (F : Nat → Prop) (A1 A2 A3 : Option Addr) (k1 c1 k2 c2 k3 c3 : Nat) (p1 p2 p3 : List ByteArray) (h1 : Lst w F A1 k1 c1 p1) (h2 : Lst w F A2 k2 c2 p2) (h3 : Lst w F A3 k3 c3 p3) (hl : p1.length + p2.length + p3.length ≤ 100000) (w0 : World) (hw0 : w0.heap.size ≤ w.heap.size) (hB00 : Below w0.heap.size w0 w) :
    Calls Try.prog 45 #[.slice (some ⟨w.heap.size, 0, none⟩) 3 3] (w.alloc (.cells #[.slice A1 k1 c1, .slice A2 k2 c2, .slice A3 k3 c3] 22)) fun e w' =>
      ∃ B k c, e = .returned (.slice B k c) ∧ k = (p1 ++ p2 ++ p3).length ∧ w'.ownsRow w0.heap.size 9 1 (.slice B k c) k ((p1 ++ p2 ++ p3).map Value.string) ∧ Below w0.heap.size w0 w' := by
  have hB0 : Below w.heap.size w (w.alloc (.cells #[.slice A1 k1 c1, .slice A2 k2 c2, .slice A3 k3 c3] 22)) := (Below.refl _ _).alloc (Nat.le_refl _) _
  have hA := At.new w 22 #[.slice A1 k1 c1, .slice A2 k2 c2, .slice A3 k3 c3]
  obtain rfl := h1.len
  obtain rfl := h2.len
  obtain rfl := h3.len
  generalize hW : w.alloc (.cells #[.slice A1 p1.length c1, .slice A2 p2.length c2, .slice A3 p3.length c3] 22) = W at hA hB0
  have hS : sum [⟨A1, c1, p1.map Value.string⟩, ⟨A2, c2, p2.map Value.string⟩, ⟨A3, c3, p3.map Value.string⟩] = (p1 ++ p2 ++ p3).map Value.string := by simp [sum]
  have q1 := h1.below hB0
  have q2 := h2.below hB0
  have q3 := h3.below hB0
  have hz := hB0.size
  refine (concatT W (fun b => F b ∨ w.heap.size ≤ b) (some ⟨w.heap.size, 0, none⟩) 3 3 [⟨A1, c1, p1.map Value.string⟩, ⟨A2, c2, p2.map Value.string⟩, ⟨A3, c3, p3.map Value.string⟩] rfl (by omega) (by rw [hS, List.length_map]; simp only [List.length_append]; omega) (fun _ => ⟨w.heap.size, 0, rfl, .inr (Nat.le_refl _), hA.lt, fun j u hj => ?_⟩) ?_).mono ?_
  · rw [Nat.zero_add, hA.cell, ← hj]
    simp [sgv]
  · intro s hs
    simp only [List.mem_cons, List.not_mem_nil, or_false] at hs
    rcases hs with rfl | rfl | rfl
    · exact ⟨q1.nil, q1.row.mono fun b hb _ => .inl hb, one_strs _⟩
    · exact ⟨q2.nil, q2.row.mono fun b hb _ => .inl hb, one_strs _⟩
    · exact ⟨q3.nil, q3.row.mono fun b hb _ => .inl hb, one_strs _⟩
  · rintro e w' ⟨B, k, c, rfl, hk, hown, hB⟩
    rw [hS] at hk hown
    refine ⟨B, k, c, rfl, by rw [hk, List.length_map], ⟨hown.1, ?_⟩, hB00.trans ((hB0.trans (hB.mono hz)).mono hw0)⟩
    rcases hown.2 with h0 | ⟨g, cap, cur, hv, hg, r⟩
    · exact .inl h0
    · exact .inr ⟨g, cap, cur, hv, by omega, r⟩

theorem lst_head {w : World} {F : Nat → Prop} {A : Option Addr} {n c : Nat} {zs : List ByteArray} (h : Lst w F A n c zs) (k : Nat) (hk : k ≤ n) : Lst w F A k c (zs.take k) := by
  have hl := h.len
  have hr := h.room
  refine ⟨by rw [List.length_take]; omega, by omega, h.nil, fun hn => ?_⟩
  rw [List.length_map, List.length_take] at hn
  obtain ⟨b, off, e, hF, hb, hc⟩ := h.row (by rw [List.length_map]; omega)
  refine ⟨b, off, e, hF, hb, fun j u hj => hc j u ?_⟩
  rw [List.map_take, List.getElem?_take] at hj
  split at hj
  · exact hj
  · cases hj
theorem lst_tail {w : World} {F : Nat → Prop} {A : Option Addr} {n c : Nat} {zs : List ByteArray} (h : Lst w F A n c zs) (k : Nat) (hk : k ≤ n) : Lst w F (tailA A c k) (n - k) (c - k) (zs.drop k) := by
  have hl := h.len
  have hr := h.room
  refine ⟨by rw [List.length_drop]; omega, by omega, tail_nil h.nil, fun hn => ?_⟩
  rw [List.length_map, List.length_drop] at hn
  obtain ⟨b, off, rfl, hF, hb, hc⟩ := h.row (by rw [List.length_map]; omega)
  unfold tailA
  rw [if_neg (by omega)]
  refine ⟨b, off + k, by simp [Addr.add], hF, hb, fun j u hj => ?_⟩
  have := hc (k + j) u (by rw [List.map_drop, List.getElem?_drop] at hj; exact hj)
  rw [← Nat.add_assoc] at this
  exact this
/-- What a splice tells: an error; or the new lines, in a row of their own. -/
def StepSays (w : World) (L ins : List ByteArray) (a d : Int) (k : Int) (e : Ending) (w' : World) : Prop :=
  (¬ k = 0 ∧ e = .returned (.tuple #[.slice none 0 0, .int .i64 k]) ∧ Below w.heap.size w w') ∨ (k = 0 ∧ ∃ v, e = .returned (.tuple #[v, .int .i64 0]) ∧ Row w (pce.spl L a.toNat d.toNat ins) v w')
theorem StepSays.below {w w' : World} {L ins : List ByteArray} {a d k : Int} {e : Ending} (h : StepSays w L ins a d k e w') : Below w.heap.size w w' := by
  rcases h with ⟨_, _, h⟩ | ⟨_, _, _, h⟩
  · exact h
  · obtain ⟨_, _, _, _, _, _, h⟩ := h; exact h

set_option maxHeartbeats 4000000 in
set_option maxRecDepth 100000 in
theorem step_is (F : Nat → Prop) (A : Option Addr) (n c : Nat) (L : List ByteArray) (a d : Int) (B : Option Addr) (m c' : Nat) (ins : List ByteArray) (w : World) (k : Int) (hk : stpE L.length a d ins = k) (hL : Lst w F A n c L) (hn : n ≤ 2000) (ha1 : -9223372036854775808 ≤ a) (ha2 : a ≤ 9223372036854775807) (hd1 : -9223372036854775808 ≤ d) (hd2 : d ≤ 9223372036854775807)
    (hI : Lst w F B m c' ins) (hm : m ≤ 10000) :
    Calls Try.prog 43 #[.slice A n c, .agg #[.int .i64 a, .int .i64 d, .slice B m c']] w (StepSays w L ins a d k) := by
  have hB0 : Below w.heap.size w (w.alloc (.cells #[.int .i64 a, .int .i64 d, .slice B m c'] 24)) := (Below.refl _ _).alloc (Nat.le_refl _) _
  have C := Lib.hid (against_is n a d B m c' ins (w.alloc (.cells #[.int .i64 a, .int .i64 d, .slice B m c'] 24)) k (by rw [hL.len]; exact hk) (by omega) ha1 ha2 hd1 hd2 hI.len (by omega) ((hI.srd.below hB0).more (by simp)))
  have HB0 := Lib.hid hB0
  have HA := Lib.hid (At.new w 24 #[.int .i64 a, .int .i64 d, .slice B m c'])
  have HL := Lib.hid hL
  have HI := Lib.hid hI
  have HK := Lib.hid hk
  clear hk hL hI hB0
  by_cases hk0 : k = 0
  · subst hk0
    obtain ⟨e1, e2, e3, e4, e5⟩ := stpE_zero.1 HK.out
    rw [← HL.out.len] at e3
    obtain ⟨x, rfl⟩ : ∃ x : Nat, a = x := ⟨a.toNat, by omega⟩
    obtain ⟨y, rfl⟩ : ∃ y : Nat, d = y := ⟨d.toNat, by omega⟩
    have hxy : x + y ≤ n := by omega
    clear e1 e2 e3 e4 e5 ha1 ha2 hd1 hd2
    go_enter Try.func43, Try.ntmps43
    go_wp2_with fail
    go_at_call 59
    refine C.out.mono ?_
    rintro e w1 ⟨rfl, hB1⟩
    have HB := Lib.hid (HB0.out.trans (hB1.mono (by simp)))
    have hz1 := HB.out.size
    have hA1 := HA.out.same (hB1.block _ (by simp))
    obtain ⟨c0, c1, c2⟩ := three_at hA1
    have hwl := hA1.lt
    clear hB1 HA HB0 C hA1
    have S1 := fun W => head_slice A n c x (by have := HL.out.room; omega) W
    have S2 := fun W => tail_slice A n c (x + y) (n - (x + y)) (by omega) W
    have h5 : (x : Int) + y = ((x + y : Nat) : Int) := by omega
    have hw : IntKind.i64.wrap ((x : Int) + y) = (x : Int) + y := by rw [IntKind.wrap_i64]; omega
    have S3 : ∀ W, (Instr.slice 22 (.slice A n c) (some (.int .i64 ((x : Int) + y))) none none).run Try.prog W = .ok (.slice (tailA A c (x + y)) (n - (x + y)) (c - (x + y))) W := fun W => by rw [h5]; exact S2 W
    have K := Lib.hid (fun (W : World) (hW : Below w.heap.size w W) => concat_lists W F A B (tailA A c (x + y)) x c m c' (n - (x + y)) (c - (x + y)) _ _ _ (lst_head (HL.out.below hW) x (by omega)) (HI.out.below hW) (lst_tail (HL.out.below hW) (x + y) (by omega)) (by rw [List.length_take, List.length_drop, ← HL.out.len, ← HI.out.len]; omega) w hW.size hW)
    have M1 : More w.heap.size w w1 := HB.out
    have M1' : More w.heap.size w w1.drew := below_drew HB.out
    clear h5
    go_wp2_with fail
    go_still_tail 13, (by kernel_rfl)
    go_wp2_with fail
    go_at_call 45
    refine (K.out _ (by first | exact M1' | exact M1)).mono ?_
    rintro e w2 ⟨B2, k2, cc2, rfl, hk2, hown2, hB2⟩
    have H2 := Lib.hid (And.intro hk2 (And.intro hown2 hB2))
    clear hk2 hown2 hB2 K S1 S2 S3 hw M1 M1' c0 c1 c2
    go_wp2
    go_ret2
    obtain ⟨g1, g2, g3⟩ := H2.out
    exact .inr ⟨rfl, _, rfl, B2, k2, _, rfl, g1, g2, g3⟩
  · have hkb : (k == 0) = false := by simpa using hk0
    have hkn : (k != 0) = true := by rw [bne, hkb]; rfl
    have HK0 := Lib.hid hk0
    clear hk0
    go_enter Try.func43, Try.ntmps43
    go_wp2_with fail
    go_at_call 59
    refine C.out.mono ?_
    rintro e w1 ⟨rfl, hB1⟩
    have HB := Lib.hid (HB0.out.trans (hB1.mono (by simp)))
    clear hB1 HA HB0 C
    go_wp2
    go_ret2
    exact .inl ⟨HK0.out, rfl, HB.out⟩

/-- What Apply tells: an error; or the new lines. -/
def appK (L : List ByteArray) (a d : Int) (ins : List ByteArray) : Int := if chk L ≠ 0 then chk L else stpE L.length a d ins
theorem appK_zero {L : List ByteArray} {a d : Int} {ins : List ByteArray} : appK L a d ins = 0 ↔ Fine L ∧ stpE L.length a d ins = 0 := by
  unfold appK
  split
  · rename_i h
    exact ⟨fun e => absurd e h, fun e => absurd (fine_chk.2 e.1) h⟩
  · rename_i h
    rw [← fine_chk]
    refine ⟨fun e => ⟨?_, e⟩, fun e => e.2⟩
    rcases Int.decEq (chk L) 0 with h' | h'
    · exact absurd h' h
    · exact h'
theorem appK_fine {L : List ByteArray} {a d : Int} {ins : List ByteArray} (h : Fine L) : appK L a d ins = stpE L.length a d ins := by
  unfold appK; rw [fine_chk.2 h, if_neg (by simp)]
end Go.Proofs.Ytdbeedhedjhamaa.sps
