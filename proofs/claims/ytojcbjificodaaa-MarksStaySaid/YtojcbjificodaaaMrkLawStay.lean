/- MarksStay, walked. -/
import Derived.Test.YtojcbjificodaaaMrkOps
import Derived.Deep.DeepCutAuto
import Derived.Deep.CutRange
namespace Go.Proofs.Ytojcbjificodaaa.mrk
open Go.RowKit Go.Lib pce sps
set_option linter.unusedVariables false
set_option linter.unusedSimpArgs false
set_option linter.unnecessarySimpa false
set_option linter.unusedSectionVars false

/-- What stands all the while: marks in block w.heap.size, and lines. -/
structure Buf (w : World) (f : Nat → Int) (B : Option Addr) (nb cb : Nat) (L : List ByteArray) (W : World) : Prop where
  below : Below w.heap.size w W
  m : Arr W w.heap.size f
  l : Lst W (fun b => b ≠ w.heap.size) B nb cb L
section
variable {w W W' : World} {f h : Nat → Int} {B : Option Addr} {nb cb : Nat} {L : List ByteArray}
theorem Buf.next (H : Buf w f B nb cb L W) (hB : Below W.heap.size W W') : Buf w f B nb cb L W' := ⟨H.below.trans (hB.mono H.below.size), H.m.all hB, H.l.below hB⟩
theorem Buf.drew (H : Buf w f B nb cb L W) : Buf w f B nb cb L W.drew := ⟨below_drew H.below, H.m, ⟨H.l.len, H.l.room, H.l.nil, H.l.row⟩⟩
/-- A block that was made just now is written. -/
theorem Buf.fresh {W1 : World} {g : Nat} (H : Buf w f B nb cb L W) (hB : Below W.heap.size W W1) (hO : Only g W1 W') (hg : W.heap.size ≤ g := by exact Nat.le_refl _) : Buf w f B nb cb L W' :=
  have h := hB.trans (hO.below hg)
  H.next h
theorem Buf.turn (H : Buf w f B nb cb L W) (hO : Only w.heap.size W W') (hA : Arr W' w.heap.size h) : Buf w h B nb cb L W' :=
  ⟨H.below.trans (hO.below (Nat.le_refl _)), hA, H.l.keep (fun b hb _ => hO.block b hb) (by rw [hO.size]; exact Nat.le_refl _)⟩
end
theorem own_lst {w : World} {base n c : Nat} {A : Option Addr} {zs : List ByteArray} (hn : n = zs.length) (h : w.ownsRow base 9 1 (.slice A n c) n (zs.map Value.string)) : Lst w (base ≤ ·) A n c zs := by
  obtain ⟨_, _, hv, hnil, hkc⟩ := own_form' h
  injection hv with e1 e2 e3
  subst e1 e3
  exact ⟨hn, hkc, hnil, VRd.of_own h⟩
theorem lst_all {w : World} {F : Nat → Prop} {A : Option Addr} {n c : Nat} {zs : List ByteArray} (h : Lst w F A n c zs) : Lst w (fun _ => True) A n c zs := h.mono fun _ _ _ => trivial
/-- Where a line stands, as long as nothing else turns. -/
theorem buf_cell {w W : World} {f : Nat → Int} {B : Option Addr} {nb cb : Nat} {L : List ByteArray} (h : Buf w f B nb cb L W) {j : Nat} {z : ByteArray} (hz : L[j]? = some z) :
    ∃ g o, B = some ⟨g, o, none⟩ ∧ ∀ W', Buf w f B nb cb L W' → W'.cell? ⟨g, o + j, none⟩ = some (.string z) := by
  have hl := (List.getElem?_eq_some_iff.1 hz).1
  obtain ⟨g, o, e, _⟩ := h.l.row (by rw [List.length_map]; omega)
  refine ⟨g, o, e, fun W' h' => ?_⟩
  obtain ⟨g', o', e', _, _, hc⟩ := h'.l.row (by rw [List.length_map]; omega)
  rw [e] at e'
  injection e' with e'
  injection e' with e1 e2
  subst e1 e2
  exact hc j _ (by rw [List.getElem?_map, hz]; rfl)
/-- What Apply of the lines and a splice of dashes comes to. -/
theorem app_holds {L : List ByteArray} {f : Nat → Int} {a d : Int} {q : Nat} (h : Holds L f) (hL : L.length ≤ 2000) (hq : q ≤ 100) (hk : appK L a d (List.replicate q dash) = 0) :
    Holds (pce.spl L a.toNat d.toNat (List.replicate q dash)) (shf f a d q) ∧ (pce.spl L a.toNat d.toNat (List.replicate q dash)).length ≤ 2000 := by
  obtain ⟨_, hst⟩ := appK_zero.1 hk
  obtain ⟨e1, e2, e3, e4, e5⟩ := stpE_zero.1 hst
  obtain ⟨x, rfl⟩ : ∃ x : Nat, a = x := ⟨a.toNat, by omega⟩
  obtain ⟨y, rfl⟩ : ∃ y : Nat, d = y := ⟨d.toNat, by omega⟩
  rw [List.length_replicate] at e5
  refine ⟨h.spl x y q (by omega) hL (by omega), ?_⟩
  unfold pce.spl
  rw [List.length_append, List.length_append, List.length_take, List.length_drop, List.length_replicate]
  simp only [Int.toNat_natCast]
  omega
/-- The marks ahead of all: the first i letters' lines. -/
def fst' (i : Nat) : Nat → Int := fun x => if x < i then (x : Int) + 1 else 0
theorem fst_zero : ∀ i, i < 26 → noM i = fst' 0 i := fun i _ => by simp [noM, fst']
theorem fst_next (i : Nat) : ∀ x, x < 26 → upd (fst' i) i ((i : Int) + 1) x = fst' (i + 1) x := fun x _ => by
  unfold upd fst'
  by_cases h : x = i
  · subst h; simp
  · rw [if_neg h]
    by_cases h2 : x < i
    · rw [if_pos h2, if_pos (by omega)]
    · rw [if_neg h2, if_neg (by omega)]
theorem own_far {w : World} {base n : Nat} {v : Value} {xs : List Value} (h : w.ownsRow base 9 1 v n xs) {p : Addr} (hp : p.block < base) (u : Value) : (w.setCell p u).ownsRow base 9 1 v n xs :=
  own_same h fun b hb => Below.heap_setCell w p u b (by have := (h.lt b hb).1; omega)
theorem shift_eq (f : Nat → Int) (a d : Int) (A : Option Addr) (k c : Nat) (w : World) (g : Nat → Int) (hg : shf f a d k = g) (hf : Ints f) (ha1 : -9223372036854775808 ≤ a) (ha2 : a ≤ 9223372036854775807) (hd1 : -9223372036854775808 ≤ d) (hd2 : d ≤ 9223372036854775807) (hk : k ≤ 100000) :
    Calls Try.prog 8 #[.agg (arr f), .agg #[.int .i64 a, .int .i64 d, .slice A k c]] w fun e w' => e = .returned (.agg (arr g)) ∧ Below w.heap.size w w' := by
  subst hg
  exact shift_is f a d A k c w hf ha1 ha2 hd1 hd2 hk
set_option maxHeartbeats 8000000 in
set_option maxRecDepth 100000 in
theorem law3 (u : Nat) (hu : u < 256) (A : Option Addr) (n c : Nat) (ts : List Ct) (w : World) (hn : n = ts.length) (hb : n ≤ maxLen) (hC : Cuts w (· < w.heap.size) A ts) (hnc : n ≤ c) :
    Calls Try.prog 3 #[.int .u8 u, .slice A n c] w fun e w' => e = .returned (.bool true) ∧ Below w.heap.size w w' := by
  have C1 := Lib.hid (beyond_is w _ A n c ts 20 (by omega) hn hb hC)
  have HN := Lib.hid hn
  have HC := Lib.hid hC
  obtain ⟨m, hm⟩ : ∃ m, u % 27 = m := ⟨_, rfl⟩
  have hmi : (u : Int) % 27 = (m : Int) := by omega
  have hm26 : m ≤ 26 := by omega
  obtain ⟨i0, hi, hz0, hz1, hz2⟩ := info_parts info9
  have hml : (1000000 : Nat) ≤ maxLen := by unfold maxLen; omega
  clear hn hb hC hm
  go_enter Try.func3, Try.ntmps3
  go_wp2_with fail
  go_at_call 5
  refine C1.out.mono ?_
  rintro e w2 ⟨(rfl | ⟨rfl, g1, g2⟩), hw⟩
  · subst hw
    go_wp2_with fail
    go_at_call 6
    refine (lives_is w).mono ?_
    rintro e w3 ⟨rfl, hB3⟩
    have HB3 := Lib.hid hB3
    clear hB3
    go_wp2
    go_ret
    exact ⟨rfl, HB3.out⟩
  subst hw
  have hn20 : n ≤ 20 := by rw [HN.out]; exact g1
  have HS : Hid (∀ t ∈ ts, t.ins.length ≤ 100) := Lib.hid g2
  clear C1 g1 g2
  go_wp2_with (first
    | (refine wpList_allocA rfl rfl ?_; intro w1 hsz1 hA1 hB1)
    | fail "NONE")
  have HA1 := Lib.hid hA1
  have HB1 := Lib.hid hB1
  have HO1 := Lib.hid (World.ownsRow_nil w1 (w.heap.size + 1) 9 1)
  have hs1 : w.heap.size + 1 ≤ w1.heap.size := by omega
  clear hA1 hB1
  go_loopg [6, 8] m (fun g s6 s8 wr => ∃ (i : Nat) (B : Option Addr) (cb : Nat), i ≤ m ∧ m - i ≤ g ∧ s8 = .int .i64 i ∧ s6 = .slice B i cb ∧ w.heap.size + 1 ≤ wr.heap.size ∧ Hid (wr.ownsRow (w.heap.size + 1) 9 1 (.slice B i cb) i (((List.range i).map ltr).map Value.string)) ∧ Hid (Arr wr w.heap.size (fst' i)) ∧ Hid (Below w.heap.size w wr))
  case atStart => exact ⟨0, none, 0, Nat.zero_le _, by omega, rfl, rfl, hs1, HO1, HA1.out.ext fst_zero, HB1⟩
  case round =>
    obtain ⟨i, B, cb, hi1, hg, rfl, rfl, hsr, PO, PA, PB⟩ := hrel
    clear HO1 HA1 HB1 hs1
    by_cases hlt : i < m
    · have hi26 : i < 26 := by omega
      have hcvi : IntKind.u8.wrap (97 + (i : Int)) = 97 + (i : Int) := by unfold IntKind.wrap; simp [IntKind.signed, IntKind.bits]; omega
      go_wp2_with (first
        | (refine wpList_byte1 rfl (.tmp 31) rfl i hi26 _ ?_ rfl ?_; (first | rfl | exact hcvi | omega | skip); intro w2 hs2 hB2 hc2; clear hs2; have hle2 := hB2.size; have hPO2 := own_keep PO.out hB2)
        | (at_builtin; refine wpList_append_own _ rfl (.tmp 28) (.tmp 34) 25 rfl (w.heap.size + 1) 9 i0 (.string ⟨#[]⟩) 1 16 Try.underlying25 hi hz0 hz1 hz2 rfl (by decide) _ _ _ rfl (hPO2.alloc _) ⟨w2.heap.size, 0, none⟩ 1 1 [.string (ltr i)] rfl rfl (cell_one_new _ _ _) (one_str _) (by omega) (by omega) (by simp; omega) ?_; intro v3 w3 hown3 hgrow3 _; obtain ⟨g', cap', rfl⟩ := ownsRow_succ hown3; have hB3 := ((hB2.mono hsr).alloc (by omega) (.cells #[.string (ltr i)] 9)).grown hgrow3 (by simp; omega) (fun j hj => (hPO2.lt j hj).1); have hA3 := PA.out.keep hB3 (Nat.lt_succ_self _); have hcell := hA3.cell hi26; have hfr := hA3.frozen i)
        | fail "NONE")
      have HO := Lib.hid (own_far hown3 (p := ⟨w.heap.size, i, none⟩) (Nat.lt_succ_self _) (.int .i64 ((i : Int) + 1)))
      have HA := Lib.hid ((hA3.set hi26 ((i : Int) + 1)).ext (fst_next i))
      have HB := Lib.hid ((PB.out.trans (hB3.mono (Nat.le_succ _))).trans ((Only.cell w3 w.heap.size i (.int .i64 ((i : Int) + 1))).below (Nat.le_refl _)))
      have hs3 := hB3.size
      rw [ltrs_snoc] at HO
      clear hA3 hcell hfr hown3 hgrow3 hB3 hB2 hc2 hPO2 hcvi
      go_roundg (m - (i + 1))
      case measure => omega
      case rel => exact ⟨i + 1, some ⟨g', 0, none⟩, cap', by omega, by omega, by go_num, rfl, by simp; omega, HO, HA, HB⟩
    · obtain rfl : i = m := by omega
      have HH : Hid (Holds ((List.range i).map ltr) (fst' i)) := Lib.hid (first_holds i hm26)
      have HL : Hid (((List.range i).map ltr).length ≤ 2000) := Lib.hid (by simp; omega)
      have HBf : Hid (Buf w (fst' i) B i cb ((List.range i).map ltr) wr) := Lib.hid ⟨PB.out, PA.out, by
        obtain ⟨_, _, hv, hnil, hkc⟩ := own_form' PO.out
        injection hv with e1 e2 e3
        subst e1 e3
        exact ⟨by simp, hkc, hnil, (VRd.of_own PO.out).mono fun b hb _ => by omega⟩⟩
      clear PO PA PB
      generalize hGL : (List.range i).map ltr = L0 at *
      generalize hGf : fst' i = f0 at *
      clear hGL hGf
      go_wp2_with fail
      go_loopg [6, 9] n (fun g s6 s9 wr => ∃ (j : Nat) (B : Option Addr) (nb cb : Nat) (L : List ByteArray) (f : Nat → Int), j ≤ n ∧ n - j ≤ g ∧ s9 = .int .i64 j ∧ s6 = .slice B nb cb ∧ Hid (Buf w f B nb cb L wr) ∧ Hid (Holds L f) ∧ Hid (L.length ≤ 2000))
      case atStart => exact ⟨0, B, i, cb, L0, f0, Nat.zero_le _, by omega, rfl, rfl, HBf, HH, HL⟩
      case round =>
        obtain ⟨j, B1, nb, cb, L, f, hj, hg, rfl, rfl, HT, HH1, HL1⟩ := hrel
        obtain ⟨W0, hW0⟩ : ∃ W0, W0 = wr := ⟨_, rfl⟩
        subst hW0
        clear HBf HH HL
        by_cases hlt : j < n
        · obtain ⟨t, ht⟩ : ∃ t, ts[j]? = some t := ⟨_, List.getElem?_eq_getElem (by rw [← HN.out]; exact hlt)⟩
          obtain ⟨b, off, rfl, hcc⟩ := cut_cells HC.out ht
          have CC := Lib.hid hcc
          have hok := HC.out.each t (List.mem_of_getElem? ht)
          have hq := HS.out t (List.mem_of_getElem? ht)
          obtain ⟨a1, a2, a3, a4, _, _, _⟩ := hok
          obtain ⟨a, ha⟩ : ∃ a, t.a = a := ⟨_, rfl⟩
          obtain ⟨d, hd⟩ : ∃ d, t.d = d := ⟨_, rfl⟩
          obtain ⟨q, hqq⟩ : ∃ q, t.ins.length = q := ⟨_, rfl⟩
          rw [ha, hd, hqq] at CC
          rw [ha] at a1 a2
          rw [hd] at a3 a4
          rw [hqq] at hq
          have HD := Lib.hid (And.intro (And.intro a1 a2) (And.intro a3 a4))
          clear ht hcc ha hd hqq a1 a2 a3 a4
          have hT0 := HT.out
          have hTD := hT0.drew
          go_wp2_with fail
          refine wp_region_noPanic ?_
          refine wp_region_held_drew (S := Buf w f B1 nb cb L) (by kernel_rfl) (by (try dsimp only); assumption) (fun hHeld => ?_)
          refine held.take (i := 0) (v := _) rfl (by kernel_rfl) (by kernel_rfl) (by kernel_rfl) (fun _ _ _ h => h) (Or.inl ⟨by rfl, fun _ _ => rfl⟩) (by assumption) ?_
          (try simp only [Act.put, List.setIfInBounds_toArray, List.set_cons_zero, List.set_cons_succ])
          refine held.take (i := 1) (v := _) rfl (by kernel_rfl) (by kernel_rfl) (by kernel_rfl) (fun _ _ _ h => h) (Or.inl ⟨by rfl, fun _ _ => rfl⟩) (by assumption) ?_
          (try simp only [Act.put, List.setIfInBounds_toArray, List.set_cons_zero, List.set_cons_succ])
          refine held.take (i := 2) (v := .pointer (some ⟨b, off + j * 3, none⟩)) rfl (by kernel_rfl) (by kernel_rfl) (by kernel_rfl) (fun _ _ _ h => h) (Or.inl ⟨by rfl, fun W hW => by (try dsimp only at hW); go_simp⟩) (by assumption) ?_
          (try simp only [Act.put, List.setIfInBounds_toArray, List.set_cons_zero, List.set_cons_succ])
          refine held.take (i := 3) (v := .pointer (some ⟨b, off + j * 3, none⟩)) rfl (by kernel_rfl) (by kernel_rfl) (by kernel_rfl) (fun _ _ _ h => h) (Or.inl ⟨by rfl, fun W hW => by (try dsimp only at hW); go_simp⟩) (by assumption) ?_
          (try simp only [Act.put, List.setIfInBounds_toArray, List.set_cons_zero, List.set_cons_succ])
          refine held.take (i := 4) (v := .int .i64 a) rfl (by kernel_rfl) (by kernel_rfl) (by kernel_rfl) (fun _ _ _ h => h) (Or.inl ⟨by rfl, fun W hW => by (try dsimp only at hW); obtain ⟨q0, q1, q2⟩ := CC.out W hW.below; go_simp⟩) (by assumption) ?_
          (try simp only [Act.put, List.setIfInBounds_toArray, List.set_cons_zero, List.set_cons_succ])
          refine held.take (i := 5) (v := _) rfl (by kernel_rfl) (by kernel_rfl) (by kernel_rfl) (fun _ _ _ h => h) (Or.inl ⟨by rfl, fun _ _ => rfl⟩) (by assumption) ?_
          (try simp only [Act.put, List.setIfInBounds_toArray, List.set_cons_zero, List.set_cons_succ])
          refine held.take (i := 6) (v := _) rfl (by kernel_rfl) (by kernel_rfl) (by kernel_rfl) (fun _ _ _ h => h) (Or.inl ⟨by rfl, fun _ _ => rfl⟩) (by assumption) ?_
          (try simp only [Act.put, List.setIfInBounds_toArray, List.set_cons_zero, List.set_cons_succ])
          refine held.take (i := 7) (v := .pointer (some ⟨b, off + j * 3, none⟩)) rfl (by kernel_rfl) (by kernel_rfl) (by kernel_rfl) (fun _ _ _ h => h) (Or.inl ⟨by rfl, fun W hW => by (try dsimp only at hW); go_simp⟩) (by assumption) ?_
          (try simp only [Act.put, List.setIfInBounds_toArray, List.set_cons_zero, List.set_cons_succ])
          refine held.take (i := 8) (v := .pointer (some ⟨b, off + j * 3 + 1, none⟩)) rfl (by kernel_rfl) (by kernel_rfl) (by kernel_rfl) (fun _ _ _ h => h) (Or.inl ⟨by rfl, fun W hW => by (try dsimp only at hW); go_simp⟩) (by assumption) ?_
          (try simp only [Act.put, List.setIfInBounds_toArray, List.set_cons_zero, List.set_cons_succ])
          refine held.take (i := 9) (v := .int .i64 d) rfl (by kernel_rfl) (by kernel_rfl) (by kernel_rfl) (fun _ _ _ h => h) (Or.inl ⟨by rfl, fun W hW => by (try dsimp only at hW); obtain ⟨q0, q1, q2⟩ := CC.out W hW.below; go_simp⟩) (by assumption) ?_
          (try simp only [Act.put, List.setIfInBounds_toArray, List.set_cons_zero, List.set_cons_succ])
          refine held.take (i := 10) (v := .agg #[.int .i64 a, .int .i64 d, .slice none 0 0]) rfl (by kernel_rfl) (by kernel_rfl) (by kernel_rfl) (fun _ _ _ h => h) (Or.inl ⟨by rfl, fun W hW => by (try dsimp only at hW); go_simp⟩) (by assumption) ?_
          (try simp only [Act.put, List.setIfInBounds_toArray, List.set_cons_zero, List.set_cons_succ])
          refine held.only (i := 11) (by kernel_rfl) rfl (fun K hK => ?_)
          rw [if_pos (by rfl)]
          refine wp_allocS rfl ?_
          intro v1 hsz1 hA1 hB1
          have T1 := Buf.next hTD hB1
          refine hK.out _ _ (by (try dsimp only); assumption) (fun hHeld => ?_)
          clear hK K
          (try simp only [Act.put, List.setIfInBounds_toArray, List.set_cons_zero, List.set_cons_succ])
          refine held.only (i := 12) (by kernel_rfl) rfl (fun K hK => ?_)
          rw [if_pos (by rfl)]
          refine wp_storeS (.tmp 10) (.tmp 58) rfl _ a d none 0 0 rfl rfl _ _ _ hA1 ?_
          intro v2 hA2 hO2
          have T2 := Buf.fresh hTD hB1 hO2
          clear T1
          refine hK.out _ _ (by (try dsimp only); assumption) (fun hHeld => ?_)
          clear hK K
          (try simp only [Act.put, List.setIfInBounds_toArray, List.set_cons_zero, List.set_cons_succ])
          refine wpAnyH_done (by kernel_rfl) ?_ _
          refine NoPanic.normal ?_
          have hA2' : At v2 W0.heap.size 30 #[.int .i64 a, .int .i64 d, .slice none 0 0] := hA2
          have hB2' : Below W0.heap.size W0 v2 := (below_drew (Below.refl W0.heap.size W0)).trans (hB1.trans (hO2.below (Nat.le_refl _)))
          have PS0 := Lib.hid hA2'
          have PB0 := Lib.hid hB2'
          have PO0 := Lib.hid (World.ownsRow_nil v2 (W0.heap.size + 1) 9 1)
          have hs2 : W0.heap.size + 1 ≤ v2.heap.size := hA2'.lt
          clear hHeld hA1 hB1 hsz1 hA2 hO2 T2 hTD hT0 hA2' hB2'
          go_wp2_with fail
          go_loopg [11] q (fun g s11 wy => ∃ (e : Nat) (A3 : Option Addr) (c3 : Nat), e ≤ q ∧ q - e ≤ g ∧ s11 = .int .i64 e ∧ W0.heap.size + 1 ≤ wy.heap.size ∧ Hid (At wy W0.heap.size 30 #[.int .i64 a, .int .i64 d, .slice A3 e c3]) ∧ Hid (wy.ownsRow (W0.heap.size + 1) 9 1 (.slice A3 e c3) e ((List.replicate e dash).map Value.string)) ∧ Hid (Below W0.heap.size W0 wy))
          case atStart => exact ⟨0, none, 0, Nat.zero_le _, by omega, rfl, hs2, PS0, PO0, PB0⟩
          case round =>
            obtain ⟨e, A3, c3, he, hge, rfl, hsy, PS, PO, PB⟩ := hrel
            clear PS0 PB0 PO0 hs2
            obtain ⟨q0, q1, q2⟩ := CC.out _ (HT.out.next PB.out).below
            obtain ⟨c0, c1, c2⟩ := three_at PS.out
            by_cases hlq : e < q
            · go_wp2_with (first
                | (at_builtin; refine wpList_append_own _ rfl (.tmp 70) (.tmp 71) 25 rfl (W0.heap.size + 1) 9 i0 (.string ⟨#[]⟩) 1 16 Try.underlying25 hi hz0 hz1 hz2 rfl (by decide) _ _ _ rfl (PO.out.alloc _) ⟨wr.heap.size, 0, none⟩ 1 1 [.string dash] rfl rfl (cell_one_new _ _ _) (one_str _) (by omega) (by omega) (by simp; omega) ?_; intro v3 w3 hown3 hgrow3 _; obtain ⟨g', cap', rfl⟩ := ownsRow_succ hown3; have hB3 := (((Below.refl (W0.heap.size + 1) wr).alloc hsy (.cells #[.string dash] 9)).grown hgrow3 (by simp; omega) (fun j hj => (PO.out.lt j hj).1)); have hA3 := PS.out.same (hB3.block _ (Nat.lt_succ_self _)); have hcell := (three_at hA3).2.2; have hfr := At.frozen hA3 2)
                | fail "NONE")
              have HO := Lib.hid (own_far hown3 (p := ⟨W0.heap.size, 2, none⟩) (Nat.lt_succ_self _) (.slice (some ⟨g', 0, none⟩) (e + 1) cap'))
              have HA : Hid (At _ W0.heap.size 30 #[.int .i64 a, .int .i64 d, .slice (some ⟨g', 0, none⟩) (e + 1) cap']) := Lib.hid (hA3.set 2 (.slice (some ⟨g', 0, none⟩) (e + 1) cap'))
              have HB := Lib.hid ((PB.out.trans (hB3.mono (Nat.le_succ _))).trans ((Only.cell w3 W0.heap.size 2 (.slice (some ⟨g', 0, none⟩) (e + 1) cap')).below (Nat.le_refl _)))
              have hs3 := hB3.size
              rw [rep_snoc] at HO
              clear hA3 hcell hfr hown3 hgrow3 hB3 q0 q1 q2 c0 c1 c2
              go_roundg (q - (e + 1))
              case measure => omega
              case rel => exact ⟨e + 1, some ⟨g', 0, none⟩, cap', by omega, by omega, by go_num, by simp; omega, HA, HO, HB⟩
            · obtain rfl : e = q := by omega
              clear hlq he hge
              have hT := HT.out.next PB.out
              obtain ⟨k, hk⟩ : ∃ k, appK L a d (List.replicate e dash) = k := ⟨_, rfl⟩
              have hnb : nb ≤ 100000 := by rw [hT.l.len]; exact Nat.le_trans HL1.out (by omega)
              have CA := Lib.hid (apply_is (fun _ => True) B1 nb cb L a d A3 e c3 (List.replicate e dash) wr k hk (lst_all hT.l) hnb HD.out.1.1 HD.out.1.2 HD.out.2.1 HD.out.2.2 (lst_all (own_lst (by rw [List.length_replicate]) PO.out)) (by omega))
              have HT3 := Lib.hid hT
              have HK := Lib.hid hk
              clear hT hnb hk
              go_wp2_with fail
              clear q0 q1 q2 c0 c1 c2
              go_at_call 7
              refine CA.out.mono ?_
              rintro e0 w5 (⟨h0, rfl, hB5⟩ | ⟨rfl, v, rfl, B2, n2, c2, rfl, hn2, ho2, hB5⟩)
              · have hkb : (k == 0) = false := by simpa using h0
                have hkn : (k != 0) = true := by rw [bne, hkb]; rfl
                have HT5 := Lib.hid (HT3.out.next hB5)
                clear hB5 CA h0 PO PS PB
                go_wp2_with fail
                go_roundg (n - (j + 1))
                case measure => omega
                case rel => exact ⟨j + 1, B1, nb, cb, L, f, by omega, by omega, by go_num, rfl, HT5, HH1, HL1⟩
              · obtain ⟨hh2, hl2⟩ := app_holds HH1.out HL1.out hq HK.out
                obtain ⟨L2, hL2⟩ : ∃ L2, pce.spl L a.toNat d.toNat (List.replicate e dash) = L2 := ⟨_, rfl⟩
                obtain ⟨f2, hf2⟩ : ∃ f2, shf f a d e = f2 := ⟨_, rfl⟩
                have HSH := Lib.hid (fun (W : World) => shift_eq f a d A3 e c3 W f2 hf2 (HH1.out.ints HL1.out) HD.out.1.1 HD.out.1.2 HD.out.2.1 HD.out.2.2 (by omega))
                rw [hL2] at hh2 hl2 hn2 ho2
                rw [hf2] at hh2
                have HH2 := Lib.hid hh2
                have HL2 := Lib.hid hl2
                have hn2b : n2 ≤ 2000 := by rw [hn2]; exact hl2
                have CK := Lib.hid (fun (W : World) => check_is f2 n2 W true (by rw [hn2]; exact hh2.may) (hh2.ints hl2) (by omega) (by omega))
                have hz5 := hB5.size
                have HB5 : Hid (Buf w f B2 n2 c2 L2 w5) := Lib.hid ⟨(HT3.out.next hB5).below, (HT3.out.next hB5).m, (own_lst hn2 ho2).mono fun b hb _ => by have := HT3.out.m.lt; omega⟩
                have PS5 := Lib.hid (PS.out.same (hB5.block _ (by omega)))
                have HN2 := Lib.hid hn2
                clear hh2 hl2 hn2 ho2 hL2 hf2 hB5 CA PO PS PB HK HT3 HT HH1 HL1 hz5
                have hm5 := HB5.out.m
                obtain ⟨c0, c1, c2'⟩ := three_at PS5.out
                go_wp2_with (first
                  | (refine wpList_loadA rfl _ rfl _ rfl _ hm5 ?_)
                  | fail "NONE")
                go_at_call 8
                refine (HSH.out w5).mono ?_
                rintro e0 w6 ⟨rfl, hB6⟩
                have HB6 := Lib.hid (HB5.out.next hB6)
                clear hB6 HB5 PS5 hm5 c0 c1 c2' HSH
                go_wp2_with (first
                  | (refine wpList_storeA rfl (.tmp 7) (.tmp 85) rfl _ _ rfl rfl _ HB6.out.m ?_; intro w7 hA7 hO7; have HB7 := Lib.hid (HB6.out.turn hO7 hA7); clear hA7 hO7)
                  | (refine wpList_loadA rfl _ rfl _ rfl _ HB7.out.m ?_)
                  | fail "NONE")
                go_at_call 9
                refine (CK.out w7).mono ?_
                rintro e0 w8 ⟨rfl, hB8⟩
                have HB8 := Lib.hid (HB7.out.next hB8)
                clear hB8 HB7 HB6 CK
                go_wp2_with fail
                go_loopg [14] i (fun g s14 wz => ∃ k : Nat, k ≤ i ∧ i - k ≤ g ∧ s14 = .int .i64 k ∧ Hid (Buf w f2 B2 n2 c2 L2 wz))
                case atStart => exact ⟨0, Nat.zero_le _, by omega, rfl, HB8⟩
                case round =>
                  obtain ⟨k, hk, hgk, rfl, HB9⟩ := hrel
                  clear HB8
                  obtain ⟨W9, hW9⟩ : ∃ W9, W9 = wr := ⟨_, rfl⟩
                  subst hW9
                  by_cases hki : k < i
                  · have hk26 : k < 26 := by omega
                    obtain ⟨p, hp, hpl, hpj⟩ := HH2.out k hk26
                    have HP := Lib.hid (And.intro hp hpj)
                    have hpn : p ≤ n2 := by rw [HN2.out]; exact hpl
                    clear hp hpl hpj
                    have hpp : ((p : Int) != (p : Int)) = false := by simp
                    go_wp2_with fail
                    go_loopg [15, 16] n2 (fun g s15 s16 wz => ∃ x : Nat, x ≤ n2 ∧ n2 - x ≤ g ∧ s16 = .int .i64 x ∧ s15 = .int .i64 ((seen p x : Nat) : Int) ∧ Hid (Buf w f2 B2 n2 c2 L2 wz))
                    case atStart => exact ⟨0, Nat.zero_le _, by omega, rfl, (by rw [seen_zero]; rfl), HB9⟩
                    case round =>
                      obtain ⟨x, hx, hgx, rfl, rfl, HBx⟩ := hrel
                      clear HB9
                      by_cases hxn : x < n2
                      · obtain ⟨z, hz⟩ : ∃ z, L2[x]? = some z := ⟨_, List.getElem?_eq_getElem (by rw [← HN2.out]; exact hxn)⟩
                        obtain ⟨gb, ob, rfl, hcc⟩ := buf_cell HBx.out hz
                        have CB := Lib.hid hcc
                        have HZ := Lib.hid hz
                        obtain ⟨bb, hbb⟩ : ∃ bb, decide (z = ltr k) = bb := ⟨_, rfl⟩
                        have HBB := Lib.hid hbb
                        have hT0 := HBx.out
                        have hTD := hT0.drew
                        have hcvk : IntKind.u8.wrap (97 + (k : Int)) = 97 + (k : Int) := by unfold IntKind.wrap; simp [IntKind.signed, IntKind.bits]; omega
                        have hwi : IntKind.i64.wrap (97 + (k : Int)) = 97 + (k : Int) := by rw [IntKind.wrap_i64]; omega
                        obtain ⟨sx, hsx⟩ : ∃ sx : Int, ((seen p x : Nat) : Int) = sx := ⟨_, rfl⟩
                        rw [hsx]
                        have HSX := Lib.hid hsx
                        clear hsx
                        clear hz hcc hbb
                        go_wp2_with fail
                        refine wp_region_noPanic ?_
                        refine wp_region_held_drew (S := Buf w f2 (some ⟨gb, ob, none⟩) n2 c2 L2) (by kernel_rfl) (by (try dsimp only); assumption) (fun hHeld => ?_)
                        refine held.take (i := 0) (v := _) rfl (by kernel_rfl) (by kernel_rfl) (by kernel_rfl) (fun _ _ _ h => h) (Or.inl ⟨by rfl, fun _ _ => rfl⟩) (by assumption) ?_
                        (try simp only [Act.put, List.setIfInBounds_toArray, List.set_cons_zero, List.set_cons_succ])
                        refine held.take (i := 1) (v := _) rfl (by kernel_rfl) (by kernel_rfl) (by kernel_rfl) (fun _ _ _ h => h) (Or.inl ⟨by rfl, fun _ _ => rfl⟩) (by assumption) ?_
                        (try simp only [Act.put, List.setIfInBounds_toArray, List.set_cons_zero, List.set_cons_succ])
                        refine held.take (i := 2) (v := .pointer (some ⟨gb, ob + x, none⟩)) rfl (by kernel_rfl) (by kernel_rfl) (by kernel_rfl) (fun _ _ _ h => h) (Or.inl ⟨by rfl, fun W hW => by (try dsimp only at hW); go_simp⟩) (by assumption) ?_
                        (try simp only [Act.put, List.setIfInBounds_toArray, List.set_cons_zero, List.set_cons_succ])
                        refine held.take (i := 3) (v := .string z) rfl (by kernel_rfl) (by kernel_rfl) (by kernel_rfl) (fun _ _ _ h => h) (Or.inl ⟨by rfl, fun W hW => by (try dsimp only at hW); have q0 := CB.out W hW; go_simp⟩) (by assumption) ?_
                        (try simp only [Act.put, List.setIfInBounds_toArray, List.set_cons_zero, List.set_cons_succ])
                        refine held.take (i := 4) (v := _) rfl (by kernel_rfl) (by kernel_rfl) (by kernel_rfl) (fun _ _ _ h => h) (Or.inl ⟨by rfl, fun _ _ => rfl⟩) (by assumption) ?_
                        (try simp only [Act.put, List.setIfInBounds_toArray, List.set_cons_zero, List.set_cons_succ])
                        refine held.take (i := 5) (v := .int .i64 (97 + (k : Int))) rfl (by kernel_rfl) (by kernel_rfl) (by kernel_rfl) (fun _ _ _ h => h) (Or.inl ⟨by rfl, fun W hW => by (try dsimp only at hW); have q0 := hwi; go_simp⟩) (by assumption) ?_
                        (try simp only [Act.put, List.setIfInBounds_toArray, List.set_cons_zero, List.set_cons_succ])
                        refine held.take (i := 6) (v := .int .u8 (97 + (k : Int))) rfl (by kernel_rfl) (by kernel_rfl) (by kernel_rfl) (fun _ _ _ h => h) (Or.inl ⟨by rfl, fun W hW => by (try dsimp only at hW); go_simp⟩) (by assumption) ?_
                        (try simp only [Act.put, List.setIfInBounds_toArray, List.set_cons_zero, List.set_cons_succ])
                        refine held.only (i := 7) (by kernel_rfl) rfl (fun K hK => ?_)
                        rw [if_pos (by rfl)]
                        refine wp_byte1 (.tmp 112) rfl k hk26 _ rfl rfl ?_
                        intro v1 hsz1 hB1 hc1
                        have T1 := Buf.next (by assumption) hB1
                        refine hK.out _ _ (by (try dsimp only); assumption) (fun hHeld => ?_)
                        clear hK K
                        (try simp only [Act.put, List.setIfInBounds_toArray, List.set_cons_zero, List.set_cons_succ])
                        refine held.only (i := 8) (by kernel_rfl) rfl (fun K hK => ?_)
                        rw [if_pos (by rfl)]
                        refine wp_conv (.tmp 113) rfl _ _ rfl hc1 ?_
                        refine hK.out _ _ (by (try dsimp only); assumption) (fun hHeld => ?_)
                        clear hK K
                        (try simp only [Act.put, List.setIfInBounds_toArray, List.set_cons_zero, List.set_cons_succ])
                        refine held.take (i := 9) (v := .bool bb) rfl (by kernel_rfl) (by kernel_rfl) (by kernel_rfl) (fun _ _ _ h => h) (yields_streq (by rfl) _ _ _ rfl z (ltr k) bb rfl rfl HBB.out) (by assumption) ?_
                        (try simp only [Act.put, List.setIfInBounds_toArray, List.set_cons_zero, List.set_cons_succ])
                        refine wpAnyH_done (by kernel_rfl) ?_ _
                        refine NoPanic.normal ?_
                        have HT1 := Lib.hid T1
                        clear hHeld hc1 hB1 T1 hTD hT0 hcvk hwi hsz1
                        cases bb with
                        | true =>
                          have HX1 : Hid (x + 1 = p) := Lib.hid ((HP.out.2 x).1 (by rw [HZ.out, of_decide_eq_true HBB.out]))
                          go_wp2_with fail
                          go_roundg (n2 - (x + 1))
                          case measure => omega
                          case rel => exact ⟨x + 1, by omega, by omega, by go_num, (by rw [seen_hit HX1.out]; go_num), HT1⟩
                        | false =>
                          have HX1 : Hid (¬ x + 1 = p) := Lib.hid (fun h => of_decide_eq_false HBB.out (by have := (HP.out.2 x).2 h; rw [HZ.out] at this; exact Option.some.inj this))
                          go_wp2_with fail
                          go_roundg (n2 - (x + 1))
                          case measure => omega
                          case rel => exact ⟨x + 1, by omega, by omega, by go_num, (by rw [seen_miss HX1.out, HSX.out]), HT1⟩
                      · obtain rfl : x = n2 := by omega
                        rw [seen_all hpn]
                        have hcl := HBx.out.m.cell hk26
                        rw [HP.out.1] at hcl
                        go_wp2_with fail
                        go_roundg (i - (k + 1))
                        case measure => omega
                        case rel => exact ⟨k + 1, by omega, by omega, by go_num, HBx⟩
                  · obtain rfl : k = i := by omega
                    go_wp2_with fail
                    go_roundg (n - (j + 1))
                    case measure => omega
                    case rel => exact ⟨j + 1, B2, n2, c2, L2, f2, by omega, by omega, by go_num, rfl, HB9, HH2, HL2⟩
        · obtain rfl : j = n := by omega
          have HT9 := Lib.hid HT.out.below
          go_wp2_with fail
          go_at_call 6
          refine (lives_is _).mono ?_
          rintro e0 w9 ⟨rfl, hB9⟩
          have HB9 := Lib.hid (HT9.out.trans (hB9.mono HT9.out.size))
          clear hB9
          go_wp2
          go_ret
          exact ⟨rfl, HB9.out⟩
end Go.Proofs.Ytojcbjificodaaa.mrk
