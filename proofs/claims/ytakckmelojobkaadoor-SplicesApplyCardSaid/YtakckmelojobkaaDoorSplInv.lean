/- Splices: Inverse, of the program. -/
import Derived.Test.YtakckmelojobkaaDoorSplStep
import Derived.Test.YtakckmelojobkaaDoorHeld
namespace Go.Proofs.YtakckmelojobkaaDoor.sps
open Go.RowKit Go.Lib pce
set_option linter.unusedVariables false
set_option linter.unusedSimpArgs false
set_option linter.unnecessarySimpa false
set_option linter.unusedSectionVars false

theorem mid_slice (A : Option Addr) (n c x y : Nat) (h : x + y ≤ c) (W : World) :
    (Instr.slice 22 (.slice A n c) (some (.int .i64 (x : Int))) (some (.int .i64 ((x : Int) + y))) none).run Tryd.prog W = .ok (.slice (tailA A c x) y (c - x)) W := by
  have hu : Tryd.prog.underlying 22 = some (.slice (Tryd.prog.elem 22)) := by rw [elemStr]; exact Tryd.underlying22
  rw [run_slice_lh (P := Tryd.prog) W 22 A n c hu .i64 .i64 (x : Int) ((x : Int) + y) (by omega) (by omega) (by omega), elemStr, size9]
  simp only [Result.andThen, sliced, Int.toNat_natCast, tailA]
  rw [show ((x : Int) + y).toNat - x = y by omega]
theorem lst_mid {w : World} {F : Nat → Prop} {A : Option Addr} {n c : Nat} {zs : List ByteArray} (h : Lst w F A n c zs) (x y : Nat) (hk : x + y ≤ n) : Lst w F (tailA A c x) y (c - x) (gone zs x y) := by
  have h1 := lst_tail (lst_head h (x + y) hk) x (by omega)
  rw [show x + y - x = y by omega] at h1
  exact h1
theorem StepSays.err {w w' : World} {L ins : List ByteArray} {a d k : Int} {e : Ending} (h : StepSays w L ins a d k e w') (hk : ¬ k = 0) : e = .returned (.tuple #[.slice none 0 0, .int .i64 k]) ∧ Below w.heap.size w w' := by
  rcases h with ⟨_, h1, h2⟩ | ⟨h0, _⟩
  · exact ⟨h1, h2⟩
  · exact absurd h0 hk
theorem StepSays.yes {w w' : World} {L ins : List ByteArray} {a d : Int} {e : Ending} (h : StepSays w L ins a d 0 e w') : ∃ B k c, e = .returned (.tuple #[.slice B k c, .int .i64 0]) ∧ Row w (pce.spl L a.toNat d.toNat ins) (.slice B k c) w' := by
  rcases h with ⟨h0, _⟩ | ⟨_, v, h1, h2⟩
  · exact absurd rfl h0
  · obtain ⟨B, k, c, rfl, _⟩ := id h2
    exact ⟨B, k, c, h1, h2⟩
/-- What Inverse tells: an error, and no splice; or the one that leads back. -/
def InvSays (w : World) (L : List ByteArray) (a d : Int) (m : Nat) (k : Int) (e : Ending) (w' : World) : Prop :=
  (¬ k = 0 ∧ e = .returned (.tuple #[.agg #[.int .i64 0, .int .i64 0, .slice none 0 0], .int .i64 k]) ∧ Below w.heap.size w w') ∨
  (k = 0 ∧ ∃ B n c, e = .returned (.tuple #[.agg #[.int .i64 a, .int .i64 m, .slice B n c], .int .i64 0]) ∧ Row w (gone L a.toNat d.toNat) (.slice B n c) w')
theorem InvSays.below {w w' : World} {L : List ByteArray} {a d k : Int} {m : Nat} {e : Ending} (h : InvSays w L a d m k e w') : Below w.heap.size w w' := by
  rcases h with ⟨_, _, h⟩ | ⟨_, _, _, _, _, h⟩
  · exact h
  · obtain ⟨_, _, _, _, _, _, h⟩ := h; exact h
theorem row_lift {w : World} {base base' n e : Nat} {v : Value} {xs : List Value} (h : w.ownsRow base e 1 v n xs) (hb : base' ≤ base) : w.ownsRow base' e 1 v n xs := by
  refine ⟨h.1, ?_⟩
  rcases h.2 with h0 | ⟨g, cap, cur, hv, hg, r⟩
  · exact .inl h0
  · exact .inr ⟨g, cap, cur, hv, by omega, r⟩
/-- What stands while the inverse is made: all that lay there, the splice, and a block for the one that is made. -/
def Made (w : World) (v : Array Value) (W : World) : Prop := More w.heap.size w W ∧ At W w.heap.size 24 v ∧ ∃ x0 x1 x2, At W (w.heap.size + 1) 24 #[x0, x1, x2]
theorem Made.drew {w W : World} {v : Array Value} (h : Made w v W) : Made w v W.drew := ⟨below_drew h.1, h.2⟩
theorem Made.next {w W W' : World} {v : Array Value} (h : Made w v W) (hB : Below W.heap.size W W') : Made w v W' := by
  obtain ⟨hM, h0, x0, x1, x2, hA⟩ := h
  exact ⟨Below.trans hM (hB.mono (Below.size hM)), h0.same (hB.block _ h0.lt), x0, x1, x2, hA.same (hB.block _ hA.lt)⟩
theorem Made.only {w W W' : World} {v : Array Value} {x0 x1 x2 : Value} (h : Made w v W) (hA : At W' (w.heap.size + 1) 24 #[x0, x1, x2]) (hO : Only (w.heap.size + 1) W W') : Made w v W' := by
  obtain ⟨hM, h0, _⟩ := h
  exact ⟨Below.trans hM (hO.below (by omega)), h0.same (hO.block _ (by omega)), _, _, _, hA⟩
theorem clone_made (F : Nat → Prop) (w : World) (v : Array Value) (A : Option Addr) (n c : Nat) (zs : List ByteArray) (h : Lst w F A n c zs) (hn : n ≤ 100000) (W : World) (hW : Made w v W) :
    Calls Tryd.prog 33 #[.slice A n c] W fun e w' => ∃ B k cc, e = .returned (.slice B k cc) ∧ Hid (k = zs.length ∧ w'.ownsRow (w.heap.size + 2) 9 1 (.slice B k cc) k (zs.map Value.string)) ∧ Made w v w' := by
  have hL := h.below hW.1
  have hz : w.heap.size + 2 ≤ W.heap.size := by obtain ⟨_, _, _, _, _, hA⟩ := hW; have := hA.lt; omega
  refine (clone_is W A n c zs hL.len hn hL.nil hL.srd).mono ?_
  rintro e w' ⟨x, rfl, B, k, cc, rfl, hk, ho, hB⟩
  exact ⟨B, k, cc, rfl, ⟨hk, row_lift ho hz⟩, hW.next hB⟩
theorem heldM {P Q : Prop} {w W : World} {v : Array Value} (h : P ∧ Q ∧ Made w v W) : Made w v W := h.2.2
theorem heldA {P Q : Prop} {w W : World} {v : Array Value} (h : P ∧ Q ∧ Made w v W) : ∃ x0 x1 x2, At W (w.heap.size + 1) 24 #[x0, x1, x2] := h.2.2.2.2
theorem heldO {P Q : Prop} {w W W' : World} {v : Array Value} {x0 x1 x2 : Value} (hA : At W' (w.heap.size + 1) 24 #[x0, x1, x2]) (hO : Only (w.heap.size + 1) W W') (h : P ∧ Q ∧ Made w v W) : Made w v W' := h.2.2.only hA hO
theorem step_storeS {w : World} {ops : Array Oper} {o : Oper} {a : Act} {K : Act → World → Prop} {Q : Exit → Act → World → Prop} {E : Prop} (hgd : o.guard = none) (x y : Operand) (ho : o.op = .store 24 x y)
    (b : Nat) (x0 x1 : Int) (A : Option Addr) (n c : Nat) (hx : a.eval x = .pointer (some ⟨b, 0, none⟩)) (hy : a.eval y = .agg #[.int .i64 x0, .int .i64 x1, .slice A n c]) (h : ∃ c0 c1 c2, At w b 24 #[c0, c1, c2])
    (hk : ∀ w', At w' b 24 #[.int .i64 x0, .int .i64 x1, .slice A n c] → Only b w w' → K (a.put o.dst undef) w') :
    if Region.wanted o (yielded ops a.tmps) = true then Oper.wp Tryd.prog o a w K Q else E := by
  have hw : Region.wanted o (yielded ops a.tmps) = true := by simp [Region.wanted, hgd]
  rw [if_pos hw]
  obtain ⟨c0, c1, c2, h⟩ := h
  exact wp_storeS x y ho b x0 x1 A n c hx hy c0 c1 c2 h hk
theorem lst_row {w w' : World} {zs : List ByteArray} {x : Value} (h : Row w zs x w') : ∃ B n c, x = .slice B n c := by obtain ⟨B, n, c, h, _⟩ := h; exact ⟨B, n, c, h⟩
theorem row_only {w1 w2 : World} {zs : List ByteArray} {B : Option Addr} {n c b base : Nat} (h : w1.ownsRow base 9 1 (.slice B n c) n (zs.map Value.string)) (hO : Only b w1 w2) (hb : b < base) : w2.ownsRow base 9 1 (.slice B n c) n (zs.map Value.string) :=
  own_same h fun g hg => hO.block g (by have := (h.lt g hg).1; omega)
set_option maxHeartbeats 4000000 in
set_option maxRecDepth 100000 in
theorem inverse_is (F : Nat → Prop) (A : Option Addr) (n c : Nat) (L : List ByteArray) (a d : Int) (B : Option Addr) (m c' : Nat) (ins : List ByteArray) (w : World) (k : Int) (hk : appK L a d ins = k) (hL : Lst w F A n c L) (hn : n ≤ 100000) (ha1 : -9223372036854775808 ≤ a) (ha2 : a ≤ 9223372036854775807) (hd1 : -9223372036854775808 ≤ d) (hd2 : d ≤ 9223372036854775807)
    (hI : Lst w F B m c' ins) (hm : m ≤ 10000) :
    Calls Tryd.prog 14 #[.slice A n c, .agg #[.int .i64 a, .int .i64 d, .slice B m c']] w (InvSays w L a d m k) := by
  have hB0 : Below w.heap.size w ((w.alloc (.cells #[.int .i64 a, .int .i64 d, .slice B m c'] 24)).alloc (.cells #[.int .i64 0, .int .i64 0, .slice none 0 0] 24)) := ((Below.refl _ _).alloc (Nat.le_refl _) _).alloc (by simp) _
  have hA := (At.new w 24 #[.int .i64 a, .int .i64 d, .slice B m c']).alloc (.cells #[.int .i64 0, .int .i64 0, .slice none 0 0] 24)
  have hR := At.new (w.alloc (.cells #[.int .i64 a, .int .i64 d, .slice B m c'] 24)) 24 #[.int .i64 0, .int .i64 0, .slice none 0 0]
  rw [World.size_alloc] at hR
  have hzz : ((w.alloc (.cells #[.int .i64 a, .int .i64 d, .slice B m c'] 24)).alloc (.cells #[.int .i64 0, .int .i64 0, .slice none 0 0] 24)).heap.size = w.heap.size + 2 := by simp
  have C := Lib.hid (apply_is F A n c L a d B m c' ins _ k hk (hL.below hB0) hn ha1 ha2 hd1 hd2 (hI.below hB0) hm)
  have HB0 := Lib.hid hB0
  have HA := Lib.hid hA
  have HR := Lib.hid hR
  have HZ := Lib.hid hzz
  have HL := Lib.hid hL
  have HI := Lib.hid hI
  have HK := Lib.hid hk
  clear hk hL hI hB0 hA hR hzz
  by_cases hk0 : k = 0
  · subst hk0
    obtain ⟨hfi, hst⟩ := appK_zero.1 HK.out
    obtain ⟨e1, e2, e3, e4, e5⟩ := stpE_zero.1 hst
    rw [← HL.out.len] at e3
    obtain ⟨x, rfl⟩ : ∃ x : Nat, a = x := ⟨a.toNat, by omega⟩
    obtain ⟨y, rfl⟩ : ∃ y : Nat, d = y := ⟨d.toNat, by omega⟩
    have hxy : x + y ≤ n := by omega
    have hn2 : n ≤ 2000 := by rw [HL.out.len]; exact hfi.1
    clear e1 e2 e3 e4 e5 ha1 ha2 hd1 hd2 hfi hst
    go_enter Tryd.func14, Tryd.ntmps14
    go_wp2_with fail
    go_at_call 12
    refine C.out.mono ?_
    rintro e w1 hE
    obtain ⟨B1, k1, cc1, rfl, _, _, _, _, _, _, hB1⟩ := hE.yes
    clear hE
    have HB := Lib.hid (HB0.out.trans (hB1.mono (by rw [HZ.out]; omega)))
    have hz1 : w.heap.size + 2 ≤ w1.heap.size := by have := hB1.size; rw [HZ.out] at this; exact this
    have hA1 := HA.out.same (hB1.block _ (by rw [HZ.out]; omega))
    have hR1 := HR.out.same (hB1.block _ (by rw [HZ.out]; omega))
    obtain ⟨c0, c1, c2⟩ := three_at hA1
    have S1 := fun W => mid_slice A n c x y (by have := HL.out.room; omega) W
    have hw : IntKind.i64.wrap ((x : Int) + y) = (x : Int) + y := by rw [IntKind.wrap_i64]; omega
    have D1 : Made w #[.int .i64 (x : Int), .int .i64 (y : Int), .slice B m c'] w1 := ⟨HB.out, hA1, _, _, _, hR1⟩
    have D1' := D1.drew
    have SK : Hid (∀ W, Made w #[.int .i64 (x : Int), .int .i64 (y : Int), .slice B m c'] W → W.cell? ⟨w.heap.size, 0, none⟩ = some (.int .i64 (x : Int)) ∧ W.cell? ⟨w.heap.size, 2, none⟩ = some (.slice B m c') ∧ Made w #[.int .i64 (x : Int), .int .i64 (y : Int), .slice B m c'] W) := Lib.hid (fun W hW => ⟨hW.2.1.cell 0, hW.2.1.cell 2, hW⟩)
    have T1 := SK.out _ D1
    have T1' := SK.out _ D1'
    have KCL := Lib.hid (fun (W : World) (hW : Made w #[.int .i64 (x : Int), .int .i64 (y : Int), .slice B m c'] W) => clone_made F w _ (tailA A c x) y (c - x) (gone L x y) (lst_mid HL.out x y (by omega)) (by omega) W hW)
    clear hB1 HA HB0 C hA1 hR1 HR
    go_wp2_with fail
    refine wp_region_noPanic ?_
    refine wp_region_held_drew (S := fun W => W.cell? ⟨w.heap.size, 0, none⟩ = some (.int .i64 (x : Int)) ∧ W.cell? ⟨w.heap.size, 2, none⟩ = some (.slice B m c') ∧ Made w #[.int .i64 (x : Int), .int .i64 (y : Int), .slice B m c'] W) (by kernel_rfl) (by (try dsimp only); first | assumption | exact ⟨by assumption, by assumption, by assumption⟩) (fun hHeld => ?_)
    refine held.take (i := 0) (v := .pointer (some ⟨w.heap.size, 0, none⟩)) rfl (by kernel_rfl) (by kernel_rfl) (by kernel_rfl) (fun _ _ _ h => h) (Or.inl ⟨by rfl, fun W hW => by (try dsimp only at hW); go_simp⟩) (by assumption) ?_
    (try simp only [Act.put, List.setIfInBounds_toArray, List.set_cons_zero, List.set_cons_succ])
    refine held.take (i := 1) (v := .int .i64 (x : Int)) rfl (by kernel_rfl) (by kernel_rfl) (by kernel_rfl) (fun _ _ _ h => h) (Or.inl ⟨by rfl, fun W hW => by (try dsimp only at hW); go_simp⟩) (by assumption) ?_
    (try simp only [Act.put, List.setIfInBounds_toArray, List.set_cons_zero, List.set_cons_succ])
    refine held.take (i := 2) (v := .pointer (some ⟨w.heap.size, 2, none⟩)) rfl (by kernel_rfl) (by kernel_rfl) (by kernel_rfl) (fun _ _ _ h => h) (Or.inl ⟨by rfl, fun W hW => by (try dsimp only at hW); go_simp⟩) (by assumption) ?_
    (try simp only [Act.put, List.setIfInBounds_toArray, List.set_cons_zero, List.set_cons_succ])
    refine held.take (i := 3) (v := .slice B m c') rfl (by kernel_rfl) (by kernel_rfl) (by kernel_rfl) (fun _ _ _ h => h) (Or.inl ⟨by rfl, fun W hW => by (try dsimp only at hW); go_simp⟩) (by assumption) ?_
    (try simp only [Act.put, List.setIfInBounds_toArray, List.set_cons_zero, List.set_cons_succ])
    refine held.take (i := 4) (v := .int .i64 (m : Int)) rfl (by kernel_rfl) (by kernel_rfl) (by kernel_rfl) (fun _ _ _ h => h) (Or.inl ⟨by rfl, fun W hW => by (try dsimp only at hW); go_simp⟩) (by assumption) ?_
    (try simp only [Act.put, List.setIfInBounds_toArray, List.set_cons_zero, List.set_cons_succ])
    refine held.take (i := 5) (v := _) rfl (by kernel_rfl) (by kernel_rfl) (by kernel_rfl) (fun _ _ _ h => h) (Or.inl ⟨by rfl, fun _ _ => rfl⟩) (by assumption) ?_
    (try simp only [Act.put, List.setIfInBounds_toArray, List.set_cons_zero, List.set_cons_succ])
    refine held.only (i := 6) (by kernel_rfl) rfl (fun K hK => ?_)
    go_simp
    go_at_call 33
    refine (KCL.out _ (heldM (by assumption))).mono ?_
    rintro e w2 ⟨B2, k2, cc2, rfl, hr2, D2⟩
    have T2 := SK.out w2 D2
    refine hK.out _ _ (by (try dsimp only); first | assumption | exact ⟨by assumption, by assumption, by assumption⟩) (fun hHeld => ?_)
    clear hK K
    (try simp only [Act.put, List.setIfInBounds_toArray, List.set_cons_zero, List.set_cons_succ])
    refine held.take (i := 7) (v := .agg #[.int .i64 (x : Int), .int .i64 (m : Int), .slice B2 k2 cc2]) rfl (by kernel_rfl) (by kernel_rfl) (by kernel_rfl) (fun _ _ _ h => h) (Or.inl ⟨by rfl, fun W hW => by (try dsimp only at hW); go_simp⟩) (by assumption) ?_
    (try simp only [Act.put, List.setIfInBounds_toArray, List.set_cons_zero, List.set_cons_succ])
    refine held.only (i := 8) (by kernel_rfl) rfl (fun K hK => ?_)
    refine step_storeS rfl (.tmp 4) (.tmp 35) rfl (w.heap.size + 1) x m B2 k2 cc2 rfl rfl (heldA (by assumption)) ?_
    intro w3 hA3 hO3
    have D3 := heldO hA3 hO3 (by assumption)
    have T3 := SK.out w3 D3
    refine hK.out _ _ (by (try dsimp only); first | assumption | exact ⟨by assumption, by assumption, by assumption⟩) (fun hHeld => ?_)
    clear hK K
    (try simp only [Act.put, List.setIfInBounds_toArray, List.set_cons_zero, List.set_cons_succ])
    refine held.take (i := 9) (v := .int .i64 0) rfl (by kernel_rfl) (by kernel_rfl) (by kernel_rfl) (fun _ _ _ h => h) (Or.inl ⟨by rfl, fun W hW => by (try dsimp only at hW); go_simp⟩) (by assumption) ?_
    (try simp only [Act.put, List.setIfInBounds_toArray, List.set_cons_zero, List.set_cons_succ])
    refine wpAnyH_done (by kernel_rfl) ?_ _
    refine NoPanic.normal ?_
    obtain ⟨d0, d1, d2⟩ := three_at hA3
    have HR3 := Lib.hid (row_only hr2.out.2 hO3 (by omega))
    have HB3 := Lib.hid T3.2.2.1
    have HN2 := Lib.hid hr2.out.1
    clear hr2 T1 T1' T2 T3 D1 D1' D2 D3 hA3 hO3 c0 c1 c2 hHeld S1 hw SK KCL
    go_wp2_with fail
    refine bodyPost_ret (v := .tuple #[.agg #[.int .i64 (x : Int), .int .i64 (m : Int), .slice B2 k2 cc2], .int .i64 0]) (by simp [results, Tryd.results14, go_sem, d0, d1, d2]) rfl (.inr ⟨rfl, B2, k2, cc2, rfl, B2, k2, cc2, rfl, HN2.out, row_lift HR3.out (by omega), HB3.out⟩)
  · have hkb : (k == 0) = false := by simpa using hk0
    have hkn : (k != 0) = true := by rw [bne, hkb]; rfl
    have HK0 := Lib.hid hk0
    clear hk0
    go_enter Tryd.func14, Tryd.ntmps14
    go_wp2_with fail
    go_at_call 12
    refine C.out.mono ?_
    rintro e w1 hE
    obtain ⟨rfl, hB1⟩ := StepSays.err hE HK0.out
    have HB := Lib.hid (HB0.out.trans (hB1.mono (by rw [HZ.out]; omega)))
    have hz1 : w.heap.size + 2 ≤ w1.heap.size := by have := hB1.size; rw [HZ.out] at this; exact this
    have hR1 := HR.out.same (hB1.block _ (by rw [HZ.out]; omega))
    have HR1 := Lib.hid hR1
    clear hB1 HA HB0 C hR1
    go_wp2_with (refine wpList_storeS rfl (.tmp 4) (.tmp 17) rfl (w.heap.size + 1) 0 0 none 0 0 rfl rfl _ _ _ HR1.out ?_; intro w2 hA2 hO2)
    obtain ⟨c0, c1, c2⟩ := three_at hA2
    refine bodyPost_ret (v := .tuple #[.agg #[.int .i64 0, .int .i64 0, .slice none 0 0], .int .i64 k]) (by simp [results, Tryd.results14, go_sem, c0, c1, c2]) rfl (.inl ⟨HK0.out, rfl, HB.out.trans (hO2.below (by omega))⟩)
end Go.Proofs.YtakckmelojobkaaDoor.sps
