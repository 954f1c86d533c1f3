/- Splices: the law's examples come out. -/
import Derived.Test.YtakckmelojobkaaDoorSplEnc
import Derived.Test.YtakckmelojobkaaDoorSplAll
namespace Go.Proofs.YtakckmelojobkaaDoor.sps
open Go.RowKit Go.Lib pce
set_option linter.unusedVariables false
set_option linter.unusedSimpArgs false
set_option linter.unnecessarySimpa false
set_option linter.unusedSectionVars false

abbrev Ln : ByteArray := ⟨#[]⟩
theorem lit_lst (w : World) (zs : List ByteArray) (n : Nat) (hn : n = zs.length) : Lst (w.alloc (.cells (zs.map Value.string).toArray 9)) (fun _ => True) (some ⟨w.heap.size, 0, none⟩) n n zs :=
  ⟨hn, Nat.le_refl _, (fun h => (by cases h)), (VRd.of_srd (lit_srd w zs) (Nat.le_refl _)).mono fun _ _ _ => trivial⟩
theorem lst_alloc {w : World} {F : Nat → Prop} {A : Option Addr} {n c : Nat} {zs : List ByteArray} (h : Lst w F A n c zs) (o : Obj) : Lst (w.alloc o) F A n c zs := h.below ((Below.refl _ _).alloc (Nat.le_refl _) _)
theorem putN_small {n : Nat} (h : n < 10) : num.putN n = [UInt8.ofNat (48 + n), 58] := by unfold num.putN; rw [num.dec_small h]; rfl
theorem encX : enc 1 2 (num.bytesOf [Lb, Ln]) = [49, 58, 50, 58, 50, 58, 49, 58, 98, 48, 58] := by
  have e : num.bytesOf [Lb, Ln] = [[98], []] := rfl
  rw [e]
  unfold enc num.putL num.putT
  rw [putN_small (by decide), putN_small (by decide), show [[(98 : UInt8)], []].length = 2 from rfl, putN_small (by decide), List.flatMap_cons, List.flatMap_cons, List.flatMap_nil]
  rw [show [(98 : UInt8)].length = 1 from rfl, show ([] : List UInt8).length = 0 from rfl, putN_small (by decide), putN_small (by decide)]
  rfl
/-- What stands behind the examples' first lines: two lists and a splice. -/
structure Exs (w W : World) : Prop where
  below : Below w.heap.size w W
  l : Lst W (fun _ => True) (some ⟨w.heap.size, 0, none⟩) 3 3 [La, Lb, Lc]
  i : Lst W (fun _ => True) (some ⟨w.heap.size + 1, 0, none⟩) 2 2 [Lx, Ly]
  s : At W (w.heap.size + 2) 24 #[.int .i64 1, .int .i64 1, .slice (some ⟨w.heap.size + 1, 0, none⟩) 2 2]
theorem Exs.next {w W W' : World} (h : Exs w W) (hB : Below W.heap.size W W') : Exs w W' :=
  ⟨h.below.trans (hB.mono h.below.size), h.l.below hB, h.i.below hB, h.s.same (hB.block _ h.s.lt)⟩
theorem exs_mk (w : World) : Exs w (((w.alloc (.cells #[.string La, .string Lb, .string Lc] 9)).alloc (.cells #[.string Lx, .string Ly] 9)).alloc (.cells #[.int .i64 1, .int .i64 1, .slice (some ⟨w.heap.size + 1, 0, none⟩) 2 2] 24)) := by
  have h1 := lit_lst w [La, Lb, Lc] 3 rfl
  have h2 := lit_lst (w.alloc (.cells #[.string La, .string Lb, .string Lc] 9)) [Lx, Ly] 2 rfl
  rw [World.size_alloc] at h2
  have h3 := At.new ((w.alloc (.cells #[.string La, .string Lb, .string Lc] 9)).alloc (.cells #[.string Lx, .string Ly] 9)) 24 #[.int .i64 1, .int .i64 1, .slice (some ⟨w.heap.size + 1, 0, none⟩) 2 2]
  rw [World.size_alloc, World.size_alloc] at h3
  exact ⟨(((Below.refl _ _).alloc (Nat.le_refl _) _).alloc (by simp) _).alloc (by simp; omega) _, lst_alloc (lst_alloc h1 _) _, lst_alloc h2 _, h3⟩

theorem app1 : appK [La, Lb, Lc] 1 1 [Lx, Ly] = 0 := by decide
theorem app2 : appK [La] 1 1 [] = 2 := by decide
theorem chk3 : chkS 1 2 [Lb, Ln] = 0 := by decide
/-- Apply and Inverse of the examples. -/
theorem applyX (w W : World) (h : Exs w W) : Calls Tryd.prog 12 #[.slice (some ⟨w.heap.size, 0, none⟩) 3 3, .agg #[.int .i64 1, .int .i64 1, .slice (some ⟨w.heap.size + 1, 0, none⟩) 2 2]] W fun e w' =>
    ∃ A n c, e = .returned (.tuple #[.slice A n c, .int .i64 0]) ∧ Hid (Lst w' (fun _ => True) A n c [La, Lx, Ly, Lc]) ∧ Hid (Exs w w') := by
  refine (apply_is _ _ 3 3 _ 1 1 _ 2 2 _ W 0 app1 h.l (by omega) (by omega) (by omega) (by omega) (by omega) h.i (by omega)).mono ?_
  rintro e w' hE
  obtain ⟨B, k, c, rfl, B', k', c', hv, hk, ho, hB⟩ := hE.yes
  injection hv with e1 e2 e3
  subst e1 e2 e3
  exact ⟨_, _, _, rfl, (lst_own hk ho).any, h.next hB⟩
theorem inverseX (w W : World) (h : Exs w W) : Calls Tryd.prog 14 #[.slice (some ⟨w.heap.size, 0, none⟩) 3 3, .agg #[.int .i64 1, .int .i64 1, .slice (some ⟨w.heap.size + 1, 0, none⟩) 2 2]] W fun e w' =>
    ∃ A n c, e = .returned (.tuple #[.agg #[.int .i64 1, .int .i64 2, .slice A n c], .int .i64 0]) ∧ Hid (Lst w' (fun _ => True) A n c [Lb]) ∧ Below W.heap.size W w' := by
  refine (inverse_is _ _ 3 3 _ 1 1 _ 2 2 _ W 0 app1 h.l (by omega) (by omega) (by omega) (by omega) (by omega) h.i (by omega)).mono ?_
  rintro e w' (⟨h0, _⟩ | ⟨_, B, k, c, rfl, B', k', c', hv, hk, ho, hB⟩)
  · exact absurd rfl h0
  · injection hv with e1 e2 e3
    subst e1 e2 e3
    exact ⟨_, _, _, rfl, (lst_own hk ho).any, hB⟩
theorem applyY (W : World) : Calls Tryd.prog 12 #[.slice (some ⟨W.heap.size, 0, none⟩) 1 1, .agg #[.int .i64 1, .int .i64 1, .slice none 0 0]] (W.alloc (.cells #[.string La] 9)) fun e w' =>
    e = .returned (.tuple #[.slice none 0 0, .int .i64 2]) ∧ Below W.heap.size W w' := by
  refine (apply_is (fun _ => True) _ 1 1 [La] 1 1 none 0 0 [] (W.alloc (.cells #[.string La] 9)) 2 app2 (lit_lst W [La] 1 rfl) (by omega) (by omega) (by omega) (by omega) (by omega) ⟨rfl, Nat.le_refl _, fun _ => rfl, VRd.nil⟩ (by omega)).mono ?_
  rintro e w' hE
  obtain ⟨rfl, hB⟩ := hE.err (by decide)
  exact ⟨rfl, ((Below.refl _ _).alloc (Nat.le_refl _) _).trans (hB.mono (by simp))⟩
theorem encodeX (W : World) (hV : VarT W.heap.size W) : Calls Tryd.prog 28 #[.agg #[.int .i64 1, .int .i64 2, .slice (some ⟨W.heap.size, 0, none⟩) 2 2]] (W.alloc (.cells #[.string Lb, .string Ln] 9)) fun e w' =>
    e = .returned (.tuple #[.string ⟨#[49, 58, 50, 58, 50, 58, 49, 58, 98, 48, 58]⟩, .int .i64 0]) ∧ Below W.heap.size W w' := by
  have hB0 : Below W.heap.size W (W.alloc (.cells #[.string Lb, .string Ln] 9)) := (Below.refl _ _).alloc (Nat.le_refl _) _
  refine (encode_is 1 2 _ 2 2 [Lb, Ln] (W.alloc (.cells #[.string Lb, .string Ln] 9)) 0 chk3 (by omega) (by omega) (by omega) (by omega) rfl (by omega) (by decide) (lit_lst W [Lb, Ln] 2 rfl).srd (hV.next hB0)).mono ?_
  rintro e w' ⟨hB, ⟨h0, _⟩ | ⟨_, rfl⟩⟩
  · exact absurd rfl h0
  · refine ⟨?_, hB0.trans (hB.mono (by simp))⟩
    show Ending.returned (.tuple #[.string (B (enc 1 2 (num.bytesOf [Lb, Ln]))), .int .i64 0]) = _
    rw [encX]
theorem sameX (A : Option Addr) (n c : Nat) (W : World) (h : Lst W (fun _ => True) A n c [Lb]) : Calls Tryd.prog 17 #[.agg #[.int .i64 1, .int .i64 2, .slice A n c], .agg #[.int .i64 1, .int .i64 2, .slice (some ⟨W.heap.size, 0, none⟩) 1 1]] (W.alloc (.cells #[.string Lb] 9)) fun e w' => e = .returned (.bool true) ∧ Below W.heap.size W w' := by
  have hB0 : Below W.heap.size W (W.alloc (.cells #[.string Lb] 9)) := (Below.refl _ _).alloc (Nat.le_refl _) _
  refine (lawSame_is 1 2 1 2 A _ n c 1 1 [Lb] [Lb] true _ h.len rfl (by rw [h.len]; decide) (by omega) (lst_alloc h _).srd (lit_lst W [Lb] 1 rfl).srd (by simp)).mono ?_
  rintro e w' ⟨rfl, hB⟩
  exact ⟨rfl, hB0.trans (hB.mono (by simp))⟩
theorem sameY (A : Option Addr) (n c : Nat) (W : World) (h : Lst W (fun _ => True) A n c [La, Lx, Ly, Lc]) : Calls Tryd.prog 16 #[.slice A n c, .slice (some ⟨W.heap.size, 0, none⟩) 4 4] (W.alloc (.cells #[.string La, .string Lx, .string Ly, .string Lc] 9)) fun e w' => e = .returned (.bool true) ∧ Below W.heap.size W w' :=
  same_lit A c n 4 [La, Lx, Ly, Lc] [La, Lx, Ly, Lc] W _ true rfl h.len rfl (by rw [h.len]; decide) (by omega) (by simp) h.srd

set_option maxHeartbeats 4000000 in
set_option maxRecDepth 100000 in
theorem does_is (w : World) (hV : VarT w.heap.size w) : Calls Tryd.prog 21 #[] w fun e w' => e = .returned (.bool true) ∧ Below w.heap.size w w' := by
  have hX0 := exs_mk w
  obtain ⟨W0, hW0⟩ : ∃ W0, ((w.alloc (.cells #[.string La, .string Lb, .string Lc] 9)).alloc (.cells #[.string Lx, .string Ly] 9)).alloc (.cells #[.int .i64 1, .int .i64 1, .slice (some ⟨w.heap.size + 1, 0, none⟩) 2 2] 24) = W0 := ⟨_, rfl⟩
  rw [hW0] at hX0
  have HX0 := Lib.hid hX0
  have HV := Lib.hid hV
  obtain ⟨b0, b1, b2⟩ := three_at hX0.s
  clear hV hX0
  go_enter Tryd.func21, Tryd.ntmps21
  go_wp2_with (refine wpList_storeL rfl (.tmp 2) (.tmp 13) rfl _ _ _ _ rfl 1 1 (some ⟨w.heap.size + 1, 0, none⟩) 2 2 (by first | rfl | simp [Act.eval, Act.put]) (by first | rfl | simp [Act.eval, Act.put]) ?_)
  go_at_call 12
  refine (applyX w W0 HX0.out).mono ?_
  rintro e w1 ⟨A1, n1, c1, rfl, L1, X1⟩
  obtain ⟨d0, d1, d2⟩ := three_at X1.out.s
  clear hW0 b0 b1 b2
  go_wp2_with fail
  go_at_call 14
  refine (inverseX w w1 X1.out).mono ?_
  rintro e w2 ⟨A2, n2, c2, rfl, L2, hB2⟩
  have hz2 := hB2.size
  have HB2 := Lib.hid (X1.out.below.trans (hB2.mono X1.out.below.size))
  have M2 := Lib.hid (L1.out.below hB2)
  clear hB2 d0 d1 d2 X1 L1
  obtain ⟨W3, hW3⟩ : ∃ W3, w2.alloc (.cells #[.int .i64 1, .int .i64 2, .slice A2 n2 c2] 24) = W3 := ⟨_, rfl⟩
  have hA3 : At W3 w2.heap.size 24 #[.int .i64 1, .int .i64 2, .slice A2 n2 c2] := by rw [← hW3]; exact At.new _ _ _
  have hB3 : Below w2.heap.size w2 W3 := by rw [← hW3]; exact (Below.refl _ _).alloc (Nat.le_refl _) _
  have P3 := Lib.hid hA3
  have HB3 := Lib.hid (HB2.out.trans (hB3.mono HB2.out.size))
  have L3 := Lib.hid (L2.out.below hB3)
  have M3 := Lib.hid (M2.out.below hB3)
  clear hA3 hB3 L2 M2
  go_wp2_with (refine wpList_storeL rfl (.tmp 5) (.tmp 24) rfl w2 _ _ _ rfl 1 2 A2 n2 c2 (by first | rfl | simp [Act.eval, Act.put]) (by first | rfl | simp [Act.eval, Act.put]) ?_; rw [hW3])
  go_at_call 12
  refine (applyY W3).mono ?_
  rintro e w4 ⟨rfl, hB4⟩
  have HB4 := Lib.hid (HB3.out.trans (hB4.mono HB3.out.size))
  have P4 := Lib.hid (P3.out.same (hB4.block _ P3.out.lt))
  have L4 := Lib.hid (L3.out.below hB4)
  have M4 := Lib.hid (M3.out.below hB4)
  clear hB4 HB3 P3 L3 M3 hW3 HB2
  go_wp2_with fail
  go_at_call 28
  refine (encodeX w4 ((HV.out.below HB4.out).more HB4.out.size)).mono ?_
  rintro e w5 ⟨rfl, hB5⟩
  have HB5 := Lib.hid (HB4.out.trans (hB5.mono HB4.out.size))
  have P5 := Lib.hid (P4.out.same (hB5.block _ P4.out.lt))
  have L5 := Lib.hid (L4.out.below hB5)
  have M5 := Lib.hid (M4.out.below hB5)
  clear hB5 HB4 P4 L4 M4
  go_wp2_with fail
  go_at_call 16
  refine (sameY A1 n1 c1 w5 M5.out).mono ?_
  rintro e w6 ⟨rfl, hB6⟩
  have HB6 := Lib.hid (HB5.out.trans (hB6.mono HB5.out.size))
  have hP6 := P5.out.same (hB6.block _ P5.out.lt)
  obtain ⟨f0, f1, f2⟩ := three_at hP6
  have hlt := hP6.lt
  have L6 := Lib.hid (L5.out.below hB6)
  clear hB6 HB5 P5 L5 M5 hP6
  go_wp2_with fail
  go_at_call 17
  refine (sameX A2 n2 c2 w6 L6.out).mono ?_
  rintro e w7 ⟨rfl, hB7⟩
  have HB7 := Lib.hid (HB6.out.trans (hB7.mono HB6.out.size))
  clear hB7 HB6 L6 f0 f1 f2
  go_wp2
  go_ret
  exact ⟨rfl, HB7.out⟩
end Go.Proofs.YtakckmelojobkaaDoor.sps
