/- SplicesApply, walked. -/
import Derived.Test.YtakckmelojobkaaDoorSplLawAll
import Derived.Test.YtakckmelojobkaaDoorSplRefInv
namespace Go.Proofs.YtakckmelojobkaaDoor.sps
open Go.RowKit Go.Lib pce
set_option linter.unusedVariables false
set_option linter.unusedSimpArgs false
set_option linter.unnecessarySimpa false
set_option linter.unusedSectionVars false

/-- A number that is told where there is no error. -/
def if0 (k x : Int) : Int := if k = 0 then x else 0
theorem InvSays.res {w w' : World} {L : List ByteArray} {a d : Int} {m : Nat} {k : Int} {e : Ending} (h : InvSays w L a d m k e w') : ∃ B n c, e = .returned (.tuple #[.agg #[.int .i64 (if0 k a), .int .i64 (if0 k m), .slice B n c], .int .i64 k]) ∧ n = (resL (gone L a.toNat d.toNat) k).length ∧ w'.ownsRow w.heap.size 9 1 (.slice B n c) n ((resL (gone L a.toNat d.toNat) k).map Value.string) ∧ Below w.heap.size w w' := by
  rcases h with ⟨h0, rfl, hB⟩ | ⟨rfl, B, n, c, rfl, B', n', c', hv, hn, ho, hB⟩
  · refine ⟨none, 0, 0, ?_, ?_, ?_, hB⟩
    · unfold if0; rw [if_neg h0, if_neg h0]
    · unfold resL; rw [if_neg h0]; rfl
    · unfold resL; rw [if_neg h0]; exact World.ownsRow_nil _ _ _ _
  · injection hv with e1 e2 e3
    subst e1 e2 e3
    exact ⟨B, n, c, rfl, hn, ho, hB⟩
theorem resL_app {L ins : List ByteArray} {a d : Int} : (resL (pce.spl L a.toNat d.toNat ins) (appK L a d ins)).length ≤ 2000 := by
  unfold resL
  split
  · rename_i h
    exact nxt_le (t := ⟨a, d, none, 0, ins⟩) (appK_zero.1 h).2
  · simp
theorem resL_gone {L ins : List ByteArray} {a d : Int} : (resL (gone L a.toNat d.toNat) (appK L a d ins)).length ≤ 2000 := by
  unfold resL
  split
  · rename_i h
    have := (appK_zero.1 h).1.1
    unfold gone
    rw [List.length_drop, List.length_take]; omega
  · simp
/-- What lies there all the while: the lists and the splice that came in, and their twins. -/
structure Sets (w : World) (A : Option Addr) (n c : Nat) (zs : List ByteArray) (a d : Int) (tA : Option Addr) (m tc : Nat) (ins : List ByteArray) (base g1 cap1 g2 cap2 : Nat) (W : World) : Prop where
  below : Below w.heap.size w W
  l : Lst W (· < w.heap.size) A n c zs
  i : Lst W (· < w.heap.size) tA m tc ins
  s : At W w.heap.size 24 #[.int .i64 a, .int .i64 d, .slice tA m tc]
  t1 : W.ownsRow base 9 1 (.slice (some ⟨g1, 0, none⟩) (n + 1) cap1) (n + 1) ((zs ++ [star]).map Value.string)
  t2 : W.ownsRow base 9 1 (.slice (some ⟨g2, 0, none⟩) (m + 1) cap2) (m + 1) ((ins ++ [star]).map Value.string)
section
variable {w W W' : World} {A tA : Option Addr} {n c m tc base g1 cap1 g2 cap2 : Nat} {zs ins : List ByteArray} {a d : Int}
theorem Sets.next (h : Sets w A n c zs a d tA m tc ins base g1 cap1 g2 cap2 W) (hB : Below W.heap.size W W') : Sets w A n c zs a d tA m tc ins base g1 cap1 g2 cap2 W' :=
  ⟨h.below.trans (hB.mono h.below.size), h.l.below hB, h.i.below hB, h.s.same (hB.block _ h.s.lt), own_keep h.t1 hB, own_keep h.t2 hB⟩
theorem Sets.but {G : Nat} (h : Sets w A n c zs a d tA m tc ins base g1 cap1 g2 cap2 W) (hB : But G W W') (h1 : w.heap.size < G) (h2 : g1 ≠ G) (h3 : g2 ≠ G) : Sets w A n c zs a d tA m tc ins base g1 cap1 g2 cap2 W' :=
  ⟨h.below.trans (hB.below h.below.size (by omega)), h.l.but hB (fun b hb _ => by omega), h.i.but hB (fun b hb _ => by omega), h.s.same (hB.block _ h.s.lt (by omega)),
   own_but h.t1 hB (fun b hb => by have : g1 = b := by simpa [Value.ownBlock] using hb
                                   omega),
   own_but h.t2 hB (fun b hb => by have : g2 = b := by simpa [Value.ownBlock] using hb
                                   omega)⟩
theorem Sets.t1lt (h : Sets w A n c zs a d tA m tc ins base g1 cap1 g2 cap2 W) : base ≤ g1 ∧ g1 < W.heap.size := h.t1.lt g1 rfl
theorem Sets.t2lt (h : Sets w A n c zs a d tA m tc ins base g1 cap1 g2 cap2 W) : base ≤ g2 ∧ g2 < W.heap.size := h.t2.lt g2 rfl
end
theorem twin_ls {w : World} {base g cap n : Nat} {zs : List ByteArray} (hn : n = zs.length) (h : w.ownsRow base 9 1 (.slice (some ⟨g, 0, none⟩) (n + 1) cap) (n + 1) ((zs ++ [star]).map Value.string)) : Lst w (fun _ => True) (some ⟨g, 0, none⟩) n cap zs := by
  subst hn
  exact twin_lst h
theorem heldT {P : Prop} {n : Nat} {wb W : World} (h : P ∧ More n wb W) : More n wb W := h.2
theorem more_next {wb W W' : World} (h : More wb.heap.size wb W) (hB : Below W.heap.size W W') : More wb.heap.size wb W' := Below.trans h (hB.mono (Below.size h))
theorem twin_more (w : World) (F : Nat → Prop) (A : Option Addr) (n c : Nat) (zs : List ByteArray) (h : Lst w F A n c zs) (hn : n ≤ 100000) (W : World) (hW : More w.heap.size w W) :
    Calls Tryd.prog 11 #[.slice A n c] W fun e w' => ∃ g cap, e = .returned (.slice (some ⟨g, 0, none⟩) n cap) ∧ Hid (w'.ownsRow w.heap.size 9 1 (.slice (some ⟨g, 0, none⟩) (n + 1) cap) (n + 1) ((zs ++ [star]).map Value.string)) ∧ Below W.heap.size W w' := by
  have hL := h.below hW
  refine (twin15 A c n zs W hL.len hL.nil hn hL.srd).mono ?_
  rintro e w' ⟨v, rfl, ht⟩
  obtain ⟨g, cap, rfl, ho, hB⟩ := ht
  have hl := hL.len
  rw [← hl] at ho ⊢
  exact ⟨g, cap, rfl, row_lift ho (Below.size hW), hB⟩
theorem pick_block {lo a b : Nat} (A : Option Addr) (h : ∀ ad, A = some ad → a ≤ ad.block ∧ ad.block < b) (h1 : lo ≤ a) (h2 : lo < b) : ∃ G, lo ≤ G ∧ G < b ∧ ∀ ad, A = some ad → ad.block = G := by
  cases A with
  | none => exact ⟨lo, Nat.le_refl _, h2, fun _ e => by cases e⟩
  | some ad =>
    have := h ad rfl
    exact ⟨ad.block, by omega, this.2, fun _ e => by injection e with e; rw [e]⟩
theorem own_span {w : World} {base n c : Nat} {A : Option Addr} {us : List Value} (h : w.ownsRow base 9 1 (.slice A n c) n us) : ∀ ad, A = some ad → base ≤ ad.block ∧ ad.block < w.heap.size := fun ad e => by
  subst e
  exact h.lt ad.block rfl
/-- Four splices that lie in blocks of their own. -/
def Boxes (b3 b7 b12 b14 : Nat) (v3 v7 v12 v14 : Array Value) (wb W : World) : Prop :=
  At W b3 24 v3 ∧ At W b7 24 v7 ∧ At W b12 24 v12 ∧ At W b14 24 v14 ∧ More wb.heap.size wb W
theorem Boxes.next {b3 b7 b12 b14 : Nat} {v3 v7 v12 v14 : Array Value} {wb W W' : World} (h : Boxes b3 b7 b12 b14 v3 v7 v12 v14 wb W) (hB : Below W.heap.size W W') : Boxes b3 b7 b12 b14 v3 v7 v12 v14 wb W' :=
  ⟨h.1.same (hB.block _ h.1.lt), h.2.1.same (hB.block _ h.2.1.lt), h.2.2.1.same (hB.block _ h.2.2.1.lt), h.2.2.2.1.same (hB.block _ h.2.2.2.1.lt), more_next h.2.2.2.2 hB⟩

set_option maxHeartbeats 8000000 in
set_option maxRecDepth 100000 in
theorem law3a (A : Option Addr) (n c : Nat) (zs : List ByteArray) (a d : Int) (tA : Option Addr) (m tc : Nat) (ins : List ByteArray) (w : World) (h : InL w A n c zs) (ha1 : -9223372036854775808 ≤ a) (ha2 : a ≤ 9223372036854775807) (hd1 : -9223372036854775808 ≤ d) (hd2 : d ≤ 9223372036854775807)
    (hI : Lst w (· < w.heap.size) tA m tc ins) (hzI : ∀ z ∈ ins, z.size ≤ maxLen) (hmf : m ≤ maxLen) (hV : VarT w.heap.size w) :
    Calls Tryd.prog 3 #[.slice A n c, .agg #[.int .i64 a, .int .i64 d, .slice tA m tc]] w fun e w' => e = .returned (.bool true) ∧ Below w.heap.size w w' := by
  obtain ⟨wb, hwb⟩ : ∃ wb, w.alloc (.cells #[.int .i64 a, .int .i64 d, .slice tA m tc] 24) = wb := ⟨_, rfl⟩
  have hX0 : Below w.heap.size w wb ∧ At wb w.heap.size 24 #[.int .i64 a, .int .i64 d, .slice tA m tc] ∧ w.heap.size + 1 ≤ wb.heap.size := by
    subst hwb
    exact ⟨(Below.refl _ _).alloc (Nat.le_refl _) _, At.new _ _ _, by simp⟩
  have hmm := hI.len
  have C1 := Lib.hid (great A c w.heap.size n 2100 20000 zs wb h.lst.len (by have := h.few; unfold maxLen at this; omega) (by omega) (by omega) h.size (h.lst.srd.below hX0.1))
  have C2 := much_is (wb.alloc (.cells #[.int .i64 a, .int .i64 d, .slice tA ins.length tc] 24)) (fun _ => True) (some ⟨wb.heap.size, 0, none⟩) 1 1 [⟨a, d, tA, tc, ins⟩] 1 (by omega) rfl (by unfold maxLen; omega) (cuts_one' wb (fun b => True) ⟨a, d, tA, tc, ins⟩ ⟨ha1, ha2, hd1, hd2, by rw [← hmm]; exact (hI.below hX0.1).any, hzI, by rw [← hmm]; exact hmf⟩)
  rw [← hmm] at C2
  have HC2 := Lib.hid C2
  have HI := Lib.hid h
  have HS := Lib.hid hI
  have HZ := Lib.hid hzI
  have HV := Lib.hid hV
  have HX := Lib.hid hX0
  have HMM := Lib.hid hmm
  obtain ⟨b0, b1, b2⟩ := three_at hX0.2.1
  clear h hI hzI hV hX0 C2 hmm
  unfold maxLen at hmf
  go_enter Tryd.func3, Tryd.ntmps3
  go_wp2_with fail
  go_at_call 9
  refine C1.out.mono ?_
  rintro e w1 ⟨hg, hw1⟩
  subst hw1
  rcases hg with rfl | ⟨rfl, g1, g2⟩
  · go_wp2
    all_goals
      go_ret
      exact ⟨rfl, HX.out.1⟩
  have hn3 : n ≤ 2100 := by rw [HI.out.lst.len]; exact g1
  clear C1 g1 g2
  go_wp2_with fail
  go_at_call 10
  refine HC2.out.mono ?_
  rintro e w2 ⟨hg, hw2⟩
  have hB2 : Below wb.heap.size wb w2 := by rw [← hw2]; exact (Below.refl _ _).alloc (Nat.le_refl _) _
  have B2 := Lib.hid (HX.out.1.trans (hB2.mono HX.out.1.size))
  have P2 := Lib.hid (HX.out.2.1.same (hB2.block _ HX.out.2.1.lt))
  have hz2 : w.heap.size + 1 ≤ w2.heap.size := by have := HX.out.2.2; have := hB2.size; omega
  clear hw2 HC2 hB2 b0 b1 b2 hwb
  obtain ⟨b0, b1, b2⟩ := three_at P2.out
  rcases hg with rfl | ⟨rfl, _, g2⟩
  · go_wp2
    all_goals
      go_ret
      exact ⟨rfl, B2.out⟩
  have hm3 : m ≤ 2100 := by rw [HMM.out]; exact (g2 ⟨a, d, tA, tc, ins⟩ (by simp)).1
  clear g2
  have M2 : More w2.heap.size w2 w2 := Below.refl _ _
  have M2' : More w2.heap.size w2 w2.drew := below_drew (Below.refl _ _)
  have SK : Hid (∀ W, More w2.heap.size w2 W → W.cell? ⟨w.heap.size, 2, none⟩ = some (.slice tA m tc) ∧ More w2.heap.size w2 W) := Lib.hid (fun W hW => ⟨(P2.out.same (Below.block hW _ P2.out.lt)).cell 2, hW⟩)
  have T2 := SK.out _ M2
  have T2' := SK.out _ M2'
  have KT1 := Lib.hid (twin_more w2 _ A n c zs (HI.out.lst.below B2.out) (by omega))
  have KT2 := Lib.hid (twin_more w2 _ tA m tc ins (HS.out.below B2.out) (by omega))
  go_wp2_with fail
  refine wp_region_noPanic ?_
  refine wp_region_held_drew (S := fun W => W.cell? ⟨w.heap.size, 2, none⟩ = some (.slice tA m tc) ∧ More w2.heap.size w2 W) (by kernel_rfl) (by (try dsimp only); first | assumption | exact ⟨by assumption, by assumption⟩) (fun hHeld => ?_)
  refine held.take (i := 0) (v := _) rfl (by kernel_rfl) (by kernel_rfl) (by kernel_rfl) (fun _ _ _ h => h) (Or.inl ⟨by rfl, fun _ _ => rfl⟩) (by assumption) ?_
  (try simp only [Act.put, List.setIfInBounds_toArray, List.set_cons_zero, List.set_cons_succ])
  refine held.take (i := 2) (v := .pointer (some ⟨w.heap.size, 2, none⟩)) rfl (by kernel_rfl) (by kernel_rfl) (by kernel_rfl) (fun _ _ _ h => h) (Or.inl ⟨by rfl, fun W hW => by (try dsimp only at hW); go_simp⟩) (by assumption) ?_
  (try simp only [Act.put, List.setIfInBounds_toArray, List.set_cons_zero, List.set_cons_succ])
  refine held.take (i := 3) (v := .slice tA m tc) rfl (by kernel_rfl) (by kernel_rfl) (by kernel_rfl) (fun _ _ _ h => h) (Or.inl ⟨by rfl, fun W hW => by (try dsimp only at hW); go_simp⟩) (by assumption) ?_
  (try simp only [Act.put, List.setIfInBounds_toArray, List.set_cons_zero, List.set_cons_succ])
  refine held.only (i := 1) (by kernel_rfl) rfl (fun K hK => ?_)
  go_simp
  go_at_call 11
  refine (KT1.out _ (heldT (by assumption))).mono ?_
  rintro e w3 ⟨g1, cap1, rfl, W1, hB3⟩
  have M3 := more_next (heldT (by assumption)) hB3
  have T3 := SK.out w3 M3
  refine hK.out _ _ (by (try dsimp only); first | assumption | exact ⟨by assumption, by assumption⟩) (fun hHeld => ?_)
  clear hK K
  (try simp only [Act.put, List.setIfInBounds_toArray, List.set_cons_zero, List.set_cons_succ])
  refine held.only (i := 4) (by kernel_rfl) rfl (fun K hK => ?_)
  go_simp
  go_at_call 11
  refine (KT2.out _ (heldT (by assumption))).mono ?_
  rintro e w4 ⟨g2, cap2, rfl, W2, hB4⟩
  have M4 := more_next (heldT (by assumption)) hB4
  have T4 := SK.out w4 M4
  refine hK.out _ _ (by (try dsimp only); first | assumption | exact ⟨by assumption, by assumption⟩) (fun hHeld => ?_)
  clear hK K
  (try simp only [Act.put, List.setIfInBounds_toArray, List.set_cons_zero, List.set_cons_succ])
  refine held.take (i := 5) (v := .slice (some ⟨g1, 0, none⟩) n cap1) rfl (by kernel_rfl) (by kernel_rfl) (by kernel_rfl) (fun _ _ _ h => h) (Or.inl ⟨by rfl, fun W hW => by (try dsimp only at hW); go_simp⟩) (by assumption) ?_
  (try simp only [Act.put, List.setIfInBounds_toArray, List.set_cons_zero, List.set_cons_succ])
  refine held.take (i := 6) (v := .slice (some ⟨g2, 0, none⟩) m cap2) rfl (by kernel_rfl) (by kernel_rfl) (by kernel_rfl) (fun _ _ _ h => h) (Or.inl ⟨by rfl, fun W hW => by (try dsimp only at hW); go_simp⟩) (by assumption) ?_
  (try simp only [Act.put, List.setIfInBounds_toArray, List.set_cons_zero, List.set_cons_succ])
  refine wpAnyH_done (by kernel_rfl) ?_ _
  refine NoPanic.normal ?_
  have hB24 : Below w2.heap.size w2 w4 := M4
  have Q4 : Sets w A n c zs a d tA m tc ins w2.heap.size g1 cap1 g2 cap2 w4 := ⟨B2.out.trans (hB24.mono B2.out.size), (HI.out.lst.below B2.out).below hB24, (HS.out.below B2.out).below hB24, P2.out.same (hB24.block _ P2.out.lt), own_keep W1.out hB4, W2.out⟩
  have HQ4 := Lib.hid Q4
  have X4 := Lib.hid (And.intro Q4.t1lt.2 Q4.t2lt.2)
  have hz4 : w.heap.size + 1 ≤ w4.heap.size := by have := hB24.size; omega
  clear M2 M2' SK T2 T2' KT1 KT2 W1 W2 hB3 hB4 M3 M4 T3 T4 hHeld hB24 b0 b1 b2 Q4 P2 B2 HS HX
  obtain ⟨b0, b1, b2⟩ := three_at HQ4.out.s
  obtain ⟨w5, hw5⟩ : ∃ w5, w4.alloc (.cells #[.int .i64 a, .int .i64 d, .slice (some ⟨g2, 0, none⟩) m cap2] 24) = w5 := ⟨_, rfl⟩
  have hB5 : Below w4.heap.size w4 w5 := by rw [← hw5]; exact (Below.refl _ _).alloc (Nat.le_refl _) _
  have P5 := Lib.hid (show At w5 w4.heap.size 24 #[.int .i64 a, .int .i64 d, .slice (some ⟨g2, 0, none⟩) m cap2] by rw [← hw5]; exact At.new _ _ _)
  have HQ5 := Lib.hid (HQ4.out.next hB5)
  have hz5 : w4.heap.size < w5.heap.size := P5.out.lt
  obtain ⟨f0, f1, f2⟩ := three_at P5.out
  obtain ⟨k, hk⟩ : ∃ k, appK zs a d ins = k := ⟨_, rfl⟩
  have HK := Lib.hid hk
  clear hk hB5
  go_wp2_with (refine wpList_storeL rfl (.tmp 7) (.tmp 35) rfl w4 _ _ _ rfl a d (some ⟨g2, 0, none⟩) m cap2 (by first | rfl | simp [Act.eval, Act.put]) (by first | rfl | simp [Act.eval, Act.put]) ?_; rw [hw5])
  go_at_call 12
  refine (apply_is (fun _ => True) (some ⟨g1, 0, none⟩) n cap1 zs a d (some ⟨g2, 0, none⟩) m cap2 ins w5 k HK.out (twin_ls HI.out.lst.len HQ5.out.t1) (by omega) ha1 ha2 hd1 hd2 (twin_ls HMM.out HQ5.out.t2) (by omega)).mono ?_
  rintro e w6 hE
  obtain ⟨A6, n6, c6, rfl, hn6, ho6, hB6⟩ := hE.res
  have hz6 := hB6.size
  have HQ6 := Lib.hid (HQ5.out.next hB6)
  have P6 := Lib.hid (P5.out.same (hB6.block _ P5.out.lt))
  have HN6 := Lib.hid hn6
  have HO6 := Lib.hid ho6
  have G6 := Lib.hid (own_span ho6)
  clear hE hn6 ho6 hB6 HQ4 HQ5 P5 f0 f1 f2 b0 b1 b2 hw5
  obtain ⟨b0, b1, b2⟩ := three_at HQ6.out.s
  go_wp2_with fail
  go_at_call 13
  refine (refApply_is (· < w.heap.size) A n c zs a d tA m tc ins w6 k HK.out HQ6.out.l (by omega) ha1 ha2 hd1 hd2 HQ6.out.i (by omega) HI.out.size HZ.out).mono ?_
  rintro e w7 hE
  obtain ⟨A7, n7, c7, rfl, hn7, ho7, hB7⟩ := hE.res
  have hz7 := hB7.size
  have HQ7 := Lib.hid (HQ6.out.next hB7)
  have P7 := Lib.hid (P6.out.same (hB7.block _ P6.out.lt))
  have HO7 := Lib.hid (own_keep HO6.out hB7)
  have L7 := Lib.hid (lst_own hn7 ho7)
  clear hE hn7 ho7 hB7 HQ6 P6 HO6 b0 b1 b2
  obtain ⟨f0, f1, f2⟩ := three_at P7.out
  obtain ⟨pa, hpa⟩ : ∃ pa, if0 k a = pa := ⟨_, rfl⟩
  obtain ⟨pm, hpm⟩ : ∃ pm, if0 k m = pm := ⟨_, rfl⟩
  obtain ⟨R, hR⟩ : ∃ R, resL (gone zs a.toNat d.toNat) k = R := ⟨_, rfl⟩
  go_wp2_with fail
  go_at_call 14
  refine (inverse_is (fun _ => True) (some ⟨g1, 0, none⟩) n cap1 zs a d (some ⟨g2, 0, none⟩) m cap2 ins w7 k HK.out (twin_ls HI.out.lst.len HQ7.out.t1) (by omega) ha1 ha2 hd1 hd2 (twin_ls HMM.out HQ7.out.t2) (by omega)).mono ?_
  rintro e w8 hE
  obtain ⟨A8, n8, c8, rfl, hn8, ho8, hB8⟩ := hE.res
  rw [hpa, hpm]
  rw [hR] at hn8 ho8
  have hz8 := hB8.size
  have HQ8 := Lib.hid (HQ7.out.next hB8)
  have P8 := Lib.hid (P7.out.same (hB8.block _ P7.out.lt))
  have HO8 := Lib.hid (own_keep HO7.out hB8)
  have L8 := Lib.hid (L7.out.below hB8)
  have HN8 := Lib.hid hn8
  have HC8 := Lib.hid ho8
  have G8 := Lib.hid (own_span ho8)
  clear hE hn8 ho8 hB8 HQ7 P7 HO7 L7 f0 f1 f2
  obtain ⟨w9, hw9⟩ : ∃ w9, w8.alloc (.cells #[.int .i64 pa, .int .i64 pm, .slice A8 n8 c8] 24) = w9 := ⟨_, rfl⟩
  have hB9 : Below w8.heap.size w8 w9 := by rw [← hw9]; exact (Below.refl _ _).alloc (Nat.le_refl _) _
  have U9 := Lib.hid (show At w9 w8.heap.size 24 #[.int .i64 pa, .int .i64 pm, .slice A8 n8 c8] by rw [← hw9]; exact At.new _ _ _)
  have HQ9 := Lib.hid (HQ8.out.next hB9)
  have P9 := Lib.hid (P8.out.same (hB9.block _ P8.out.lt))
  have HO9 := Lib.hid (own_keep HO8.out hB9)
  have HC9 := Lib.hid (own_keep HC8.out hB9)
  have L9 := Lib.hid (L8.out.below hB9)
  have hz9 : w8.heap.size < w9.heap.size := U9.out.lt
  clear hB9 HQ8 P8 HO8 HC8 L8
  obtain ⟨b0, b1, b2⟩ := three_at HQ9.out.s
  go_wp2_with (refine wpList_storeL rfl (.tmp 12) (.tmp 52) rfl w8 _ _ _ rfl pa pm A8 n8 c8 (by first | rfl | simp [Act.eval, Act.put]) (by first | rfl | simp [Act.eval, Act.put]) ?_; rw [hw9])
  go_at_call 15
  refine (refInverse_is (· < w.heap.size) A n c zs a d tA m tc ins w9 k HK.out HQ9.out.l (by omega) ha1 ha2 hd1 hd2 HQ9.out.i (by omega) HI.out.size HZ.out).mono ?_
  rintro e w10 hE
  obtain ⟨A10, n10, c10, rfl, hn10, ho10, hB10⟩ := hE.res
  rw [hpa, hpm]
  rw [hR] at hn10 ho10
  have hz10 := hB10.size
  have HQ10 := Lib.hid (HQ9.out.next hB10)
  have P10 := Lib.hid (P9.out.same (hB10.block _ P9.out.lt))
  have U10 := Lib.hid (U9.out.same (hB10.block _ U9.out.lt))
  have HO10 := Lib.hid (own_keep HO9.out hB10)
  have HC10 := Lib.hid (own_keep HC9.out hB10)
  have L10 := Lib.hid (L9.out.below hB10)
  have D10 := Lib.hid (lst_own hn10 ho10)
  clear hE hn10 ho10 hB10 HQ9 P9 U9 HO9 HC9 L9 b0 b1 b2 hw9
  obtain ⟨w11, hw11⟩ : ∃ w11, w10.alloc (.cells #[.int .i64 pa, .int .i64 pm, .slice A10 n10 c10] 24) = w11 := ⟨_, rfl⟩
  have hB11 : Below w10.heap.size w10 w11 := by rw [← hw11]; exact (Below.refl _ _).alloc (Nat.le_refl _) _
  have V11 := Lib.hid (show At w11 w10.heap.size 24 #[.int .i64 pa, .int .i64 pm, .slice A10 n10 c10] by rw [← hw11]; exact At.new _ _ _)
  have HQ11 := Lib.hid (HQ10.out.next hB11)
  have P11 := Lib.hid (P10.out.same (hB11.block _ P10.out.lt))
  have U11 := Lib.hid (U10.out.same (hB11.block _ U10.out.lt))
  have HO11 := Lib.hid (own_keep HO10.out hB11)
  have HC11 := Lib.hid (own_keep HC10.out hB11)
  have L11 := Lib.hid (L10.out.below hB11)
  have D11 := Lib.hid (D10.out.below hB11)
  clear hB11 HQ10 P10 U10 HO10 HC10 L10 D10
  have hkn : (k != k) = false := by simp
  have hl6 : n6 ≤ 2000 := by rw [HN6.out, ← HK.out]; exact resL_app
  have hl7 : n7 ≤ 2000 := by rw [L11.out.len, ← HK.out]; exact resL_app
  have hRR : R.length ≤ 2000 := by rw [← hR, ← HK.out]; exact resL_gone
  have hl8 : n8 ≤ 2000 := by rw [HN8.out]; exact hRR
  have hl10 : n10 ≤ 2000 := by rw [D11.out.len]; exact hRR
  clear hpa hpm hR hRR hHeld
  obtain ⟨BP, hBP⟩ : ∃ BP : World → Prop, BP = Boxes w.heap.size w4.heap.size w8.heap.size w10.heap.size #[.int .i64 a, .int .i64 d, .slice tA m tc] #[.int .i64 a, .int .i64 d, .slice (some ⟨g2, 0, none⟩) m cap2] #[.int .i64 pa, .int .i64 pm, .slice A8 n8 c8] #[.int .i64 pa, .int .i64 pm, .slice A10 n10 c10] w11 := ⟨_, rfl⟩
  have BX : BP w11 := by rw [hBP]; exact ⟨HQ11.out.s, P11.out, U11.out, V11.out, Below.refl _ _⟩
  have BX' : BP w11.drew := by rw [hBP]; exact ⟨HQ11.out.s, P11.out, U11.out, V11.out, below_drew (Below.refl _ _)⟩
  have BN : Hid (∀ W W', BP W → Below W.heap.size W W' → BP W') := Lib.hid (fun W W' h hB => by rw [hBP] at h ⊢; exact h.next hB)
  have Q3 : Hid (∀ W, BP W → At W w.heap.size 24 #[.int .i64 a, .int .i64 d, .slice tA m tc]) := Lib.hid (fun W h => by rw [hBP] at h; exact h.1)
  have Q7 : Hid (∀ W, BP W → At W w4.heap.size 24 #[.int .i64 a, .int .i64 d, .slice (some ⟨g2, 0, none⟩) m cap2]) := Lib.hid (fun W h => by rw [hBP] at h; exact h.2.1)
  have Q12 : Hid (∀ W, BP W → At W w8.heap.size 24 #[.int .i64 pa, .int .i64 pm, .slice A8 n8 c8]) := Lib.hid (fun W h => by rw [hBP] at h; exact h.2.2.1)
  have Q14 : Hid (∀ W, BP W → At W w10.heap.size 24 #[.int .i64 pa, .int .i64 pm, .slice A10 n10 c10]) := Lib.hid (fun W h => by rw [hBP] at h; exact h.2.2.2.1)
  have QM : Hid (∀ W, BP W → Below w11.heap.size w11 W) := Lib.hid (fun W h => by rw [hBP] at h; exact h.2.2.2.2)
  clear hBP
  obtain ⟨q, hq⟩ : ∃ q, chkS a d ins = q := ⟨_, rfl⟩
  have HQQ := Lib.hid hq
  clear hq
  have hqn : (q != q) = false := by simp
  have KS1 : Hid (∀ W, BP W → Calls Tryd.prog 16 #[.slice A6 n6 c6, .slice A7 n7 c7] W fun e w' => e = .returned (.bool true) ∧ BP w') := Lib.hid (fun W hW =>
    (same12_b A6 A7 c6 c7 n6 n7 _ _ W true HN6.out L11.out.len (by omega) (by omega) (by simp) (lst_own HN6.out (own_keep HO11.out (QM.out W hW))).srd (L11.out.below (QM.out W hW)).srd).mono (fun e w' h => ⟨h.1, BN.out W w' hW h.2⟩))
  have KS2 : Hid (∀ W, BP W → Calls Tryd.prog 17 #[.agg #[.int .i64 pa, .int .i64 pm, .slice A8 n8 c8], .agg #[.int .i64 pa, .int .i64 pm, .slice A10 n10 c10]] W fun e w' => e = .returned (.bool true) ∧ BP w') := Lib.hid (fun W hW =>
    (lawSame_is pa pm pa pm A8 A10 n8 c8 n10 c10 R R true W HN8.out D11.out.len (by omega) (by omega) (lst_own HN8.out (own_keep HC11.out (QM.out W hW))).srd (D11.out.below (QM.out W hW)).srd (by simp)).mono (fun e w' h => ⟨h.1, BN.out W w' hW h.2⟩))
  have KS3 : Hid (∀ W, BP W → Calls Tryd.prog 18 #[.agg #[.int .i64 a, .int .i64 d, .slice (some ⟨g2, 0, none⟩) m cap2]] W fun e w' => e = .returned (.int .i64 q) ∧ BP w') := Lib.hid (fun W hW =>
    (check_is a d (some ⟨g2, 0, none⟩) m cap2 ins W q HQQ.out ha1 ha2 hd1 hd2 HMM.out (by omega) (twin_ls HMM.out (HQ11.out.next (QM.out W hW)).t2).srd).mono (fun e w' h => ⟨h.1, BN.out W w' hW h.2⟩))
  have KS4 : Hid (∀ W, BP W → Calls Tryd.prog 19 #[.agg #[.int .i64 a, .int .i64 d, .slice tA m tc]] W fun e w' => e = .returned (.int .i64 q) ∧ BP w') := Lib.hid (fun W hW =>
    (refCheck_is a d tA m tc ins W q HQQ.out ha1 ha2 hd1 hd2 HMM.out (by omega) HZ.out (HQ11.out.next (QM.out W hW)).i.srd).mono (fun e w' h => ⟨h.1, BN.out W w' hW h.2⟩))
  go_wp2_with (refine wpList_storeL rfl (.tmp 14) (.tmp 58) rfl w10 _ _ _ rfl pa pm A10 n10 c10 (by first | rfl | simp [Act.eval, Act.put]) (by first | rfl | simp [Act.eval, Act.put]) ?_; rw [hw11])
  refine wp_region_noPanic ?_
  refine wp_region_held_drew (S := BP) (by kernel_rfl) (by (try dsimp only); assumption) (fun hHeld => ?_)
  refine held.take (i := 0) (v := _) rfl (by kernel_rfl) (by kernel_rfl) (by kernel_rfl) (fun _ _ _ h => h) (Or.inl ⟨by rfl, fun _ _ => rfl⟩) (by assumption) ?_
  (try simp only [Act.put, List.setIfInBounds_toArray, List.set_cons_zero, List.set_cons_succ])
  refine held.take (i := 1) (v := _) rfl (by kernel_rfl) (by kernel_rfl) (by kernel_rfl) (fun _ _ _ h => h) (Or.inl ⟨by rfl, fun _ _ => rfl⟩) (by assumption) ?_
  (try simp only [Act.put, List.setIfInBounds_toArray, List.set_cons_zero, List.set_cons_succ])
  refine held.take (i := 2) (v := .bool false) rfl (by kernel_rfl) (by kernel_rfl) (by kernel_rfl) (fun _ _ _ h => h) (Or.inl ⟨by rfl, fun W hW => by (try dsimp only at hW); go_simp⟩) (by assumption) ?_
  (try simp only [Act.put, List.setIfInBounds_toArray, List.set_cons_zero, List.set_cons_succ])
  refine held.take (i := 3) (v := .bool false) rfl (by kernel_rfl) (by kernel_rfl) (by kernel_rfl) (fun _ _ _ h => h) (Or.inl ⟨by rfl, fun W hW => by (try dsimp only at hW); go_simp⟩) (by assumption) ?_
  (try simp only [Act.put, List.setIfInBounds_toArray, List.set_cons_zero, List.set_cons_succ])
  refine held.take (i := 4) (v := _) rfl (by kernel_rfl) (by kernel_rfl) (by kernel_rfl) (fun _ _ _ h => h) (Or.inl ⟨by rfl, fun _ _ => rfl⟩) (by assumption) ?_
  (try simp only [Act.put, List.setIfInBounds_toArray, List.set_cons_zero, List.set_cons_succ])
  refine held.take (i := 5) (v := _) rfl (by kernel_rfl) (by kernel_rfl) (by kernel_rfl) (fun _ _ _ h => h) (Or.inl ⟨by rfl, fun _ _ => rfl⟩) (by assumption) ?_
  (try simp only [Act.put, List.setIfInBounds_toArray, List.set_cons_zero, List.set_cons_succ])
  refine held.only (i := 6) (by kernel_rfl) rfl (fun K hK => ?_)
  go_simp
  go_at_call 16
  refine (KS1.out _ (by assumption)).mono ?_
  rintro e w12 ⟨rfl, Z12⟩
  refine hK.out _ _ (by (try dsimp only); assumption) (fun hHeld => ?_)
  clear hK K
  (try simp only [Act.put, List.setIfInBounds_toArray, List.set_cons_zero, List.set_cons_succ])
  refine held.take (i := 7) (v := .bool false) rfl (by kernel_rfl) (by kernel_rfl) (by kernel_rfl) (fun _ _ _ h => h) (Or.inl ⟨by rfl, fun W hW => by (try dsimp only at hW); go_simp⟩) (by assumption) ?_
  (try simp only [Act.put, List.setIfInBounds_toArray, List.set_cons_zero, List.set_cons_succ])
  refine held.take (i := 8) (v := .bool false) rfl (by kernel_rfl) (by kernel_rfl) (by kernel_rfl) (fun _ _ _ h => h) (Or.inl ⟨by rfl, fun W hW => by (try dsimp only at hW); go_simp⟩) (by assumption) ?_
  (try simp only [Act.put, List.setIfInBounds_toArray, List.set_cons_zero, List.set_cons_succ])
  refine held.take (i := 9) (v := .bool false) rfl (by kernel_rfl) (by kernel_rfl) (by kernel_rfl) (fun _ _ _ h => h) (Or.inl ⟨by rfl, fun W hW => by (try dsimp only at hW); go_simp⟩) (by assumption) ?_
  (try simp only [Act.put, List.setIfInBounds_toArray, List.set_cons_zero, List.set_cons_succ])
  refine held.take (i := 10) (v := _) rfl (by kernel_rfl) (by kernel_rfl) (by kernel_rfl) (fun _ _ _ h => h) (Or.inl ⟨by rfl, fun _ _ => rfl⟩) (by assumption) ?_
  (try simp only [Act.put, List.setIfInBounds_toArray, List.set_cons_zero, List.set_cons_succ])
  refine held.take (i := 11) (v := _) rfl (by kernel_rfl) (by kernel_rfl) (by kernel_rfl) (fun _ _ _ h => h) (Or.inl ⟨by rfl, fun _ _ => rfl⟩) (by assumption) ?_
  (try simp only [Act.put, List.setIfInBounds_toArray, List.set_cons_zero, List.set_cons_succ])
  refine held.take (i := 12) (v := .bool false) rfl (by kernel_rfl) (by kernel_rfl) (by kernel_rfl) (fun _ _ _ h => h) (Or.inl ⟨by rfl, fun W hW => by (try dsimp only at hW); go_simp⟩) (by assumption) ?_
  (try simp only [Act.put, List.setIfInBounds_toArray, List.set_cons_zero, List.set_cons_succ])
  refine held.take (i := 13) (v := .bool false) rfl (by kernel_rfl) (by kernel_rfl) (by kernel_rfl) (fun _ _ _ h => h) (Or.inl ⟨by rfl, fun W hW => by (try dsimp only at hW); go_simp⟩) (by assumption) ?_
  (try simp only [Act.put, List.setIfInBounds_toArray, List.set_cons_zero, List.set_cons_succ])
  refine held.take (i := 14) (v := .bool false) rfl (by kernel_rfl) (by kernel_rfl) (by kernel_rfl) (fun _ _ _ h => h) (Or.inl ⟨by rfl, fun W hW => by (try dsimp only at hW); go_simp⟩) (by assumption) ?_
  (try simp only [Act.put, List.setIfInBounds_toArray, List.set_cons_zero, List.set_cons_succ])
  refine held.take (i := 15) (v := .agg #[.int .i64 pa, .int .i64 pm, .slice A8 n8 c8]) rfl (by kernel_rfl) (by kernel_rfl) (by kernel_rfl) (fun _ _ _ h => h) (Or.inl ⟨by rfl, fun W hW => by (try dsimp only at hW); obtain ⟨q0, q1, q2⟩ := three_at (Q12.out W hW); go_simp⟩) (by assumption) ?_
  (try simp only [Act.put, List.setIfInBounds_toArray, List.set_cons_zero, List.set_cons_succ])
  refine held.take (i := 16) (v := .agg #[.int .i64 pa, .int .i64 pm, .slice A10 n10 c10]) rfl (by kernel_rfl) (by kernel_rfl) (by kernel_rfl) (fun _ _ _ h => h) (Or.inl ⟨by rfl, fun W hW => by (try dsimp only at hW); obtain ⟨q0, q1, q2⟩ := three_at (Q14.out W hW); go_simp⟩) (by assumption) ?_
  (try simp only [Act.put, List.setIfInBounds_toArray, List.set_cons_zero, List.set_cons_succ])
  refine held.only (i := 17) (by kernel_rfl) rfl (fun K hK => ?_)
  go_simp
  go_at_call 17
  refine (KS2.out _ (by assumption)).mono ?_
  rintro e w13 ⟨rfl, Z13⟩
  refine hK.out _ _ (by (try dsimp only); assumption) (fun hHeld => ?_)
  clear hK K
  (try simp only [Act.put, List.setIfInBounds_toArray, List.set_cons_zero, List.set_cons_succ])
  refine held.take (i := 18) (v := .bool false) rfl (by kernel_rfl) (by kernel_rfl) (by kernel_rfl) (fun _ _ _ h => h) (Or.inl ⟨by rfl, fun W hW => by (try dsimp only at hW); go_simp⟩) (by assumption) ?_
  (try simp only [Act.put, List.setIfInBounds_toArray, List.set_cons_zero, List.set_cons_succ])
  refine held.take (i := 19) (v := .bool false) rfl (by kernel_rfl) (by kernel_rfl) (by kernel_rfl) (fun _ _ _ h => h) (Or.inl ⟨by rfl, fun W hW => by (try dsimp only at hW); go_simp⟩) (by assumption) ?_
  (try simp only [Act.put, List.setIfInBounds_toArray, List.set_cons_zero, List.set_cons_succ])
  refine held.take (i := 20) (v := .bool false) rfl (by kernel_rfl) (by kernel_rfl) (by kernel_rfl) (fun _ _ _ h => h) (Or.inl ⟨by rfl, fun W hW => by (try dsimp only at hW); go_simp⟩) (by assumption) ?_
  (try simp only [Act.put, List.setIfInBounds_toArray, List.set_cons_zero, List.set_cons_succ])
  refine held.take (i := 21) (v := .agg #[.int .i64 a, .int .i64 d, .slice (some ⟨g2, 0, none⟩) m cap2]) rfl (by kernel_rfl) (by kernel_rfl) (by kernel_rfl) (fun _ _ _ h => h) (Or.inl ⟨by rfl, fun W hW => by (try dsimp only at hW); obtain ⟨q0, q1, q2⟩ := three_at (Q7.out W hW); go_simp⟩) (by assumption) ?_
  (try simp only [Act.put, List.setIfInBounds_toArray, List.set_cons_zero, List.set_cons_succ])
  refine held.take (i := 23) (v := .agg #[.int .i64 a, .int .i64 d, .slice tA m tc]) rfl (by kernel_rfl) (by kernel_rfl) (by kernel_rfl) (fun _ _ _ h => h) (Or.inl ⟨by rfl, fun W hW => by (try dsimp only at hW); obtain ⟨q0, q1, q2⟩ := three_at (Q3.out W hW); go_simp⟩) (by assumption) ?_
  (try simp only [Act.put, List.setIfInBounds_toArray, List.set_cons_zero, List.set_cons_succ])
  refine held.only (i := 22) (by kernel_rfl) rfl (fun K hK => ?_)
  go_simp
  go_at_call 18
  refine (KS3.out _ (by assumption)).mono ?_
  rintro e w14 ⟨rfl, Z14⟩
  refine hK.out _ _ (by (try dsimp only); assumption) (fun hHeld => ?_)
  clear hK K
  (try simp only [Act.put, List.setIfInBounds_toArray, List.set_cons_zero, List.set_cons_succ])
  refine held.only (i := 24) (by kernel_rfl) rfl (fun K hK => ?_)
  go_simp
  go_at_call 19
  refine (KS4.out _ (by assumption)).mono ?_
  rintro e w15 ⟨rfl, Z15⟩
  refine hK.out _ _ (by (try dsimp only); assumption) (fun hHeld => ?_)
  clear hK K
  (try simp only [Act.put, List.setIfInBounds_toArray, List.set_cons_zero, List.set_cons_succ])
  refine held.take (i := 25) (v := .bool false) rfl (by kernel_rfl) (by kernel_rfl) (by kernel_rfl) (fun _ _ _ h => h) (Or.inl ⟨by rfl, fun W hW => by (try dsimp only at hW); go_simp⟩) (by assumption) ?_
  (try simp only [Act.put, List.setIfInBounds_toArray, List.set_cons_zero, List.set_cons_succ])
  refine held.take (i := 26) (v := .bool false) rfl (by kernel_rfl) (by kernel_rfl) (by kernel_rfl) (fun _ _ _ h => h) (Or.inl ⟨by rfl, fun W hW => by (try dsimp only at hW); go_simp⟩) (by assumption) ?_
  (try simp only [Act.put, List.setIfInBounds_toArray, List.set_cons_zero, List.set_cons_succ])
  refine wpAnyH_done (by kernel_rfl) ?_ _
  refine NoPanic.normal ?_
  have hB15 := QM.out w15 Z15
  have hz15 := hB15.size
  have HQ15 := Lib.hid (HQ11.out.next hB15)
  have U15 := Lib.hid (Q12.out w15 Z15)
  have HO15 := own_keep HO11.out hB15
  have HC15 := Lib.hid (own_keep HC11.out hB15)
  obtain ⟨G, hG1, hG2, hG3⟩ := pick_block (lo := w4.heap.size) A6 G6.out (by omega) (by omega)
  obtain ⟨G', hG4, hG5, hG6⟩ := pick_block (lo := w4.heap.size) A8 G8.out (by omega) (by omega)
  have HG2 := Lib.hid hG3
  have HG4 := Lib.hid hG6
  have GG := Lib.hid (And.intro hG1 (And.intro hG2 (And.intro hG4 hG5)))
  clear BX BX' BN Q3 Q7 Q12 Q14 QM KS1 KS2 KS3 KS4 Z12 Z13 Z14 Z15 HQ11 P11 U11 V11 HO11 HC11 L11 D11 hHeld hB15 hG1 hG2 hG3 hG4 hG5 hG6
  go_wp2_with fail
  go_loopg [16] n6 (fun gg s16 wr => ∃ (j : Nat) (us : List Value), j ≤ n6 ∧ n6 - j ≤ gg ∧ s16 = .int .i64 j ∧ wr.ownsRow w5.heap.size 9 1 (.slice A6 n6 c6) n6 us ∧ But G w15 wr)
  case atStart => exact ⟨0, _, Nat.zero_le _, by omega, rfl, HO15, But.refl _ _⟩
  case round =>
    obtain ⟨j, us, hj, hg, rfl, ho1, hBr⟩ := hrel
    clear HO15
    by_cases hjl : j < n6
    · obtain ⟨gb, capb, hv, _, _⟩ := ho1.form (by omega)
      injection hv with hv1 hv2 hv3
      subst hv1
      obtain rfl : gb = G := HG2.out _ rfl
      have hcp := (own_cap ho1).1
      have hus : j < us.length := by rw [ho1.1]; omega
      have hcell := ho1.cellAt j (by omega)
      rw [List.getElem?_eq_getElem hus] at hcell
      have hfr := ho1.frozenAt j
      have hst := Lib.hid (ho1.stored j (.string ⟨#[63]⟩)).1
      have hB' := Lib.hid (hBr.setCell j (.string ⟨#[63]⟩))
      clear ho1 hBr hv2 hv3
      go_wp2
      go_roundg (n6 - (j + 1))
      case measure => omega
      case rel => exact ⟨j + 1, _, by omega, by omega, by go_num, hst.out, hB'.out⟩
    · have hjn : j = n6 := by omega
      subst hjn
      have hzr := hBr.size
      have HQ16 := Lib.hid (HQ15.out.but hBr (by have := GG.out.1; omega) (by have := GG.out.1; have := X4.out.1; omega) (by have := GG.out.1; have := X4.out.2; omega))
      have U16 := Lib.hid (U15.out.same (hBr.block _ U15.out.lt (by have := GG.out.2.1; omega)))
      have hC16 := own_but HC15.out hBr (fun b hb => by
        have h1 := GG.out.2.1
        cases A8 with
        | none => cases hb
        | some ad =>
          have h2 := (G8.out ad rfl).1
          have h3 : ad.block = b := by simpa [Value.ownBlock] using hb
          omega)
      clear ho1 hBr HQ15 U15 HC15
      obtain ⟨f0, f1, f2⟩ := three_at U16.out
      go_wp2_with fail
      go_loopg [17] n8 (fun gg s17 wq => ∃ (i : Nat) (us : List Value), i ≤ n8 ∧ n8 - i ≤ gg ∧ s17 = .int .i64 i ∧ wq.ownsRow w7.heap.size 9 1 (.slice A8 n8 c8) n8 us ∧ But G' wr wq)
      case atStart => exact ⟨0, _, Nat.zero_le _, by omega, rfl, hC16, But.refl _ _⟩
      case round =>
        obtain ⟨i, us, hi, hg, rfl, ho1, hBr⟩ := hrel
        have hU := U16.out.same (hBr.block _ U16.out.lt (by have := GG.out.2.2.2; omega))
        obtain ⟨f0, f1, f2⟩ := three_at hU
        clear hC16
        by_cases hil : i < n8
        · obtain ⟨gb, capb, hv, _, _⟩ := ho1.form (by omega)
          injection hv with hv1 hv2 hv3
          subst hv1
          obtain rfl : gb = G' := HG4.out _ rfl
          have hcp := (own_cap ho1).1
          have hus : i < us.length := by rw [ho1.1]; omega
          have hcell := ho1.cellAt i (by omega)
          rw [List.getElem?_eq_getElem hus] at hcell
          have hfr := ho1.frozenAt i
          have hst := Lib.hid (ho1.stored i (.string ⟨#[63]⟩)).1
          have hB' := Lib.hid (hBr.setCell i (.string ⟨#[63]⟩))
          clear ho1 hBr hv2 hv3 hU
          go_wp2
          go_roundg (n8 - (i + 1))
          case measure => omega
          case rel => exact ⟨i + 1, _, by omega, by omega, by go_num, hst.out, hB'.out⟩
        · have hin : i = n8 := by omega
          subst hin
          have hzq := hBr.size
          have HQ17 := Lib.hid (HQ16.out.but hBr (by have := GG.out.2.2.1; omega) (by have := GG.out.2.2.1; have := X4.out.1; omega) (by have := GG.out.2.2.1; have := X4.out.2; omega))
          clear ho1 hBr HQ16 hU
          obtain ⟨b0, b1, b2⟩ := three_at HQ17.out.s
          go_wp2_with fail
          go_at_call 20
          refine (left20 A c g1 cap1 n _ zs _ HI.out.lst.len (by omega) HQ17.out.t1 HQ17.out.l.srd).mono ?_
          rintro e w18 ⟨rfl, hB18⟩
          have HQ18 := Lib.hid (HQ17.out.next hB18)
          clear hB18 HQ17 b0 b1 b2
          obtain ⟨b0, b1, b2⟩ := three_at HQ18.out.s
          go_wp2_with fail
          go_at_call 20
          refine (left20 tA tc g2 cap2 m _ ins w18 HMM.out (by omega) HQ18.out.t2 HQ18.out.i.srd).mono ?_
          rintro e w19 ⟨rfl, hB19⟩
          have HQ19 := Lib.hid (HQ18.out.next hB19)
          clear hB19 HQ18 b0 b1 b2
          go_wp2_with fail
          go_at_call 21
          refine (does_is w19 ((HV.out.below HQ19.out.below).more HQ19.out.below.size)).mono ?_
          rintro e w20 ⟨rfl, hB20⟩
          have HB20 := Lib.hid (HQ19.out.below.trans (hB20.mono HQ19.out.below.size))
          clear hB20 HQ19
          go_wp2
          go_ret
          exact ⟨rfl, HB20.out⟩
theorem law3 (A : Option Addr) (n c : Nat) (zs : List ByteArray) (t : Ct) (w : World) (h : InL w A n c zs) (ht : CtOk w (· < w.heap.size) t) (hV : VarT w.heap.size w) :
    Calls Tryd.prog 3 #[.slice A n c, .agg #[.int .i64 t.a, .int .i64 t.d, .slice t.A t.ins.length t.c]] w fun e w' => e = .returned (.bool true) ∧ Below w.heap.size w w' :=
  law3a A n c zs t.a t.d t.A t.ins.length t.c t.ins w h ht.a1 ht.a2 ht.d1 ht.d2 ht.lst ht.size ht.few hV
end Go.Proofs.YtakckmelojobkaaDoor.sps
