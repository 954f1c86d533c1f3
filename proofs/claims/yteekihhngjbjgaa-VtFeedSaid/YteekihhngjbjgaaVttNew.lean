/- Terminals: a new one, of the program. -/
import Derived.Test.YteekihhngjbjgaaVttFeed
namespace Go.Proofs.Yteekihhngjbjgaa.vtt
open Go.RowKit Go.Lib Go.Proofs.Yteekihhngjbjgaa.grd
set_option linter.unusedVariables false
set_option linter.unusedSimpArgs false
set_option linter.unnecessarySimpa false
set_option linter.unusedSectionVars false

/-- A new grid's rows, which may be written. -/
def Made (n m h : Nat) (w w' : World) : Prop := ∃ g hs cs o, Wr w' h g n m (blankC n m) hs cs o ∧ w.heap.size ≤ h ∧ w.heap.size ≤ g ∧ h < w'.heap.size ∧ g < w'.heap.size ∧ h ≠ g ∧ Below w.heap.size w w'
theorem Made.below {n m h : Nat} {w w' : World} (H : Made n m h w w') : Below w.heap.size w w' := by
  obtain ⟨_, _, _, _, _, _, _, _, _, _, h⟩ := H; exact h
set_option maxHeartbeats 4000000 in
set_option maxRecDepth 100000 in
theorem blanks_w (n m : Nat) (hn1 : 2 ≤ n) (hn2 : n ≤ 60) (hm1 : 8 ≤ m) (hm2 : m ≤ 132) (w : World) :
    Calls Try.prog 37 #[.int .i64 n, .int .i64 m] w fun e w' => ∃ h, e = .returned (.slice (some ⟨h, 0, none⟩) n n) ∧ Made n m h w w' := by
  obtain ⟨i0, hi0, hz0, hz1, hz2⟩ := info_parts info32
  obtain ⟨p, hp⟩ : ∃ p, p = n * m := ⟨_, rfl⟩
  have hp1 : 1 ≤ p := by rw [hp]; exact Nat.mul_pos (by omega) (by omega)
  have hp2 : p ≤ 8000 := by rw [hp]; exact Nat.le_trans (Nat.mul_le_mul hn2 hm2) (by decide)
  have hpm : (n : Int) * (m : Int) = (p : Int) := by rw [hp]; exact (Int.natCast_mul n m).symm
  have HP := Lib.hid hp
  clear hp
  have hml : (1000000 : Nat) ≤ maxLen := by unfold maxLen; omega
  go_enter Try.func37, Try.ntmps37
  go_wp2_with fail
  go_at_call 45
  refine (repeat_is _ w.heap.size 0 1 p hp1 hp2 (by simp) ((At.new w 5 #[.int .u8 32]).cell 0)).mono ?_
  rintro e W1 ⟨rfl, hcur, hB0⟩
  have HB1 : Below w.heap.size w W1 := ((Below.refl _ _).alloc (Nat.le_refl _) _).trans (hB0.mono (by simp))
  have hg1 : (w.alloc (.cells #[.int .u8 32] 5)).heap.size = w.heap.size + 1 := by simp
  have HC : Hid (∃ cur : List Value, At W1 (w.heap.size + 1) 5 cur.toArray ∧ Bl cur p) := Lib.hid (by rw [← hg1]; exact hcur)
  have hw1 : w.heap.size + 1 < W1.heap.size := by obtain ⟨cur, h, _⟩ := HC.out; exact h.lt
  clear hcur hB0 hg1
  go_wp2_with (at_make; refine wpList_make_full _ rfl (.tmp 15) (.tmp 15) 32 rfl W1.heap.size 39 i0 (.slice none 0 0) 1 Try.underlying32 hi0 hz0 hz1 .i64 .i64 _ _ n rfl rfl rfl rfl (by rw [hz2]; omega) (by omega) (Nat.le_refl _) ?_; intro W2 hown2 hgrow2; rw [made_rows] at hown2)
  have HB2 : Below w.heap.size w W2 := HB1.trans (((Below.refl W1.heap.size W1).grown hgrow2 (Nat.le_refl _) (fun k e => by cases e)).mono HB1.size)
  have HB12 := Lib.hid ((Below.refl W1.heap.size W1).grown hgrow2 (Nat.le_refl _) (fun k e => by cases e))
  have hs2 := HB12.out.size
  have HCUR : Hid (∃ cur : List Value, At W2 (w.heap.size + 1) 5 cur.toArray ∧ Bl cur p) := Lib.hid (by
    obtain ⟨cur, h1, h2⟩ := HC.out
    exact ⟨cur, h1.keep HB12.out hw1, h2⟩)
  have HH : Hid (∃ hs, At W2 W1.heap.size 39 hs ∧ Cut hs (w.heap.size + 1) m 0 n) := Lib.hid (by
    obtain ⟨g, cs, e, _, h1, h2⟩ := own_block hown2 (by omega)
    injection e with e; injection e with e _; subst e
    exact ⟨cs, h1, ⟨fun i hi => absurd hi (Nat.not_lt_zero _), fun i _ hi => h2 i _ (by rw [List.getElem?_replicate, if_pos hi])⟩⟩)
  clear hown2 hgrow2 HC HB1
  go_wp2
  go_loopg [19, 7, 8, 9] n (fun g s19 s7 s8 s9 wr => ∃ k : Nat, k ≤ n ∧ n - k ≤ g ∧ s19 = .int .i64 k ∧ Below w.heap.size w wr ∧ W1.heap.size < wr.heap.size ∧ Hid (∃ cur : List Value, At wr (w.heap.size + 1) 5 cur.toArray ∧ Bl cur p) ∧ Hid (∃ hs, At wr W1.heap.size 39 hs ∧ Cut hs (w.heap.size + 1) m k n))
  case atStart => exact ⟨0, Nat.zero_le _, by omega, rfl, HB2, by obtain ⟨_, h, _⟩ := HH.out; exact h.lt, HCUR, HH⟩
  case round =>
    obtain ⟨k, hk, hg, rfl, hB, hsz, HU, HT⟩ := hrel
    clear HB2 HB12 HCUR HH hs2
    by_cases hlt : k < n
    · obtain ⟨q, hq⟩ : ∃ q, q = k * m := ⟨_, rfl⟩
      have hq1 : (k : Int) * (m : Int) = (q : Int) := by rw [hq]; exact (Int.natCast_mul k m).symm
      have hq2 : ((k : Int) + 1) * (m : Int) = ((q + m : Nat) : Int) := by rw [hq]; push_cast; rw [Int.add_mul]; omega
      have hqp : q + m ≤ p := by
        rw [hq, HP.out, show k * m + m = (k + 1) * m by rw [Nat.add_mul, Nat.one_mul]]
        exact Nat.mul_le_mul (by omega) (Nat.le_refl _)
      have HQ := Lib.hid hq
      clear hq
      obtain ⟨hs, hA, hC⟩ := HT.out
      have hc1 : wr.cell? ⟨W1.heap.size, k, none⟩ = some (.slice none 0 0) := (hA.cell k).trans (hC.rest k (Nat.le_refl _) hlt)
      have hf1 : wr.frozen? ⟨W1.heap.size, k, none⟩ = false := hA.frozen k
      have NC : Hid (∃ cur : List Value, At (wr.setCell ⟨W1.heap.size, k, none⟩ (.slice (some ⟨w.heap.size + 1, q, none⟩) m m)) (w.heap.size + 1) 5 cur.toArray ∧ Bl cur p) := Lib.hid (by
        obtain ⟨cur, h1, h2⟩ := HU.out
        exact ⟨cur, h1.far (by simp; omega) _, h2⟩)
      have NT : Hid (∃ hs, At (wr.setCell ⟨W1.heap.size, k, none⟩ (.slice (some ⟨w.heap.size + 1, q, none⟩) m m)) W1.heap.size 39 hs ∧ Cut hs (w.heap.size + 1) m (k + 1) n) := Lib.hid ⟨_, hA.set k _, by rw [HQ.out]; exact hC.step hlt⟩
      have NB := Lib.hid (hB.setCell (p := ⟨W1.heap.size, k, none⟩) (by simp; omega) (.slice (some ⟨w.heap.size + 1, q, none⟩) m m))
      clear hA hC HU HT
      have hqm : ¬ (q + m : Nat) = q := by omega
      go_wp2
      go_roundg (n - (k + 1))
      case measure => omega
      case rel => exact ⟨k + 1, by omega, by omega, by go_num, NB.out, by simpa using hsz, NC, NT⟩
    · have hkn : k = n := by omega
      subst hkn
      have FIN : Hid (Made k m W1.heap.size w wr) := Lib.hid (by
        obtain ⟨cur, h1, h2⟩ := HU.out
        obtain ⟨hs, h3, h4⟩ := HT.out
        refine ⟨w.heap.size + 1, hs, cur.toArray, fun i => i * m, ⟨h3, h1, fun i hi => h4.done i hi, fun i l j c hl hc => ?_, fun i j hi hj hne => ?_, by simp [blankC], fun l hl => ?_⟩, by omega, by omega, hsz, h1.lt, by omega, hB⟩
        · unfold blankC at hl
          have hi2 : i < k := by have := (List.getElem?_eq_some_iff.1 hl).1; simpa using this
          rw [List.getElem?_replicate, if_pos hi2, Option.some.injEq] at hl
          subst hl
          have hj2 : j < m := by have := (List.getElem?_eq_some_iff.1 hc).1; simpa using this
          rw [List.getElem?_replicate, if_pos hj2, Option.some.injEq] at hc
          have hle : i * m + m ≤ p := by
            rw [HP.out, show i * m + m = (i + 1) * m by rw [Nat.add_mul, Nat.one_mul]]
            exact Nat.mul_le_mul (by omega) (Nat.le_refl _)
          rw [List.getElem?_toArray, h2 (i * m + j) (by omega), ← hc]; rfl
        · rcases Nat.lt_or_gt_of_ne hne with h | h
          · left
            have := Nat.mul_le_mul_right m (show i + 1 ≤ j by omega)
            rw [Nat.add_mul, Nat.one_mul] at this; exact this
          · right
            have := Nat.mul_le_mul_right m (show j + 1 ≤ i by omega)
            rw [Nat.add_mul, Nat.one_mul] at this; exact this
        · unfold blankC at hl
          rw [List.eq_of_mem_replicate hl]; simp)
      clear HU HT
      go_wp2
      go_ret
      exact ⟨_, rfl, FIN.out⟩
set_option maxHeartbeats 2000000 in
set_option maxRecDepth 100000 in
/-- New: a grid of blanks, whose rows may be written. -/
theorem new_w (n m : Nat) (hn1 : 2 ≤ n) (hn2 : n ≤ 60) (hm1 : 8 ≤ m) (hm2 : m ≤ 132) (w : World) :
    Calls Try.prog 24 #[.int .i64 n, .int .i64 m] w fun e w' => ∃ h, e = .returned (.tuple #[.agg #[.int .i64 n, .int .i64 m, .slice (some ⟨h, 0, none⟩) n n, .int .i64 0, .int .i64 0], .int .i64 0]) ∧ Made n m h w w' := by
  have hsz : sized n m = true := sized_iff.2 (by omega)
  have C := Lib.hid (fun W => hsz ▸ mayBe_is n m W)
  clear hsz
  go_enter Try.func24, Try.ntmps24
  go_wp2_with fail
  go_at_call 31
  refine (C.out _).mono ?_
  rintro e w' ⟨rfl, hw⟩
  have hw := hw.symm
  subst hw
  go_wp2_with fail
  go_at_call 37
  refine (blanks_w n m hn1 hn2 hm1 hm2 _).mono ?_
  rintro e w1 ⟨h, rfl, hM⟩
  have HM := Lib.hid hM
  have HB0 := Lib.hid hM.below
  have hA := At.keep (At.new w 34 #[.int .i64 0, .int .i64 0, .slice none 0 0, .int .i64 0, .int .i64 0]) hM.below (by simp)
  have hz := hM.below.size
  have HA := Lib.hid hA
  clear hM hA
  go_wp2_with (refine wpList_storeG rfl (.tmp 4) (.tmp 16) rfl w.heap.size n m 0 0 (some ⟨h, 0, none⟩) n n rfl rfl _ HA.out rfl ?_; intro w2 hA2 hBut)
  obtain ⟨c0, c1, c2, c3, c4⟩ := hA2.five
  refine bodyPost_ret (v := .tuple #[.agg #[.int .i64 n, .int .i64 m, .slice (some ⟨h, 0, none⟩) n n, .int .i64 0, .int .i64 0], .int .i64 0]) (by simp [results, Try.results24, go_sem, c0, c1, c2, c3, c4]) rfl ⟨h, rfl, ?_⟩
  obtain ⟨g, hs, cs, o, H1, H2, H3, H4, H5, H6, H7⟩ := HM.out
  have hz0 : (w.alloc (.cells #[.int .i64 0, .int .i64 0, .slice none 0 0, .int .i64 0, .int .i64 0] 34)).heap.size = w.heap.size + 1 := by simp
  rw [hz0] at H2 H3
  have hz2 := hBut.size
  exact ⟨g, hs, cs, o, H1.keep (hBut.block h (by omega)) (hBut.block g (by omega)), by omega, by omega, by omega, by omega, H6, (((Below.refl _ _).alloc (Nat.le_refl _) _).trans (H7.mono (by simp))).trans (hBut.below (Nat.le_refl _))⟩
theorem Made.vb {n m h b : Nat} {w w' w'' : World} (H : Made n m h w w') (hB : Below w'.heap.size w' w'') (hb : w'.heap.size ≤ b) (hA : At w'' b 46 (vc (new n m) h)) (hz : 2 ≤ n ∧ n ≤ 60 ∧ 8 ≤ m ∧ m ≤ 132) : Vt w'' w.heap.size w''.heap.size b (new n m) := by
  obtain ⟨g, hs, cs, o, H1, H2, H3, H4, H5, H6, H7⟩ := H
  have h1 := H7.size
  have h2 := hB.size
  have h3 := hA.lt
  exact ⟨h, g, hs, cs, o, Ok.new hz, hA, H1.keep (hB.block h H4) (hB.block g H5), by omega, by omega, by omega, by omega, by omega, H6, Nat.le_refl _⟩
def IsNew (n m : Nat) (w : World) (e : Ending) (w' : World) : Prop := ∃ b, e = .returned (.pointer (some ⟨b, 0, none⟩)) ∧ Vt w' w.heap.size w'.heap.size b (new n m) ∧ Below w.heap.size w w'
set_option maxHeartbeats 2000000 in
set_option maxRecDepth 100000 in
theorem vnew_yes (n m : Nat) (hz : 2 ≤ n ∧ n ≤ 60 ∧ 8 ≤ m ∧ m ≤ 132) (w : World) : Calls Try.prog 11 #[.int .i64 n, .int .i64 m] w (IsNew n m w) := by
  have C := Lib.hid (fun W => new_w n m hz.1 hz.2.1 hz.2.2.1 hz.2.2.2 W)
  have HZ := Lib.hid hz
  clear hz
  go_enter Try.func11, Try.ntmps11
  go_wp2_with fail
  go_at_call 24
  refine (C.out _).mono ?_
  rintro e w1 ⟨h, rfl, hM⟩
  have HM := Lib.hid hM
  have HN := Lib.hid (At.new w1 34 #[.int .i64 0, .int .i64 0, .slice none 0 0, .int .i64 0, .int .i64 0])
  clear hM C
  go_wp2_with (refine wpList_storeG rfl (.tmp 5) (.tmp 11) rfl w1.heap.size n m 0 0 (some ⟨h, 0, none⟩) n n rfl rfl _ HN.out rfl ?_; intro w2 hA2 hBut; obtain ⟨c0, c1, c2, c3, c4⟩ := hA2.five; have HA2 := Lib.hid hA2; have HBut := Lib.hid hBut; clear hA2 hBut)
  have FIN : Hid (IsNew n m w (.returned (.pointer (some ⟨w2.heap.size, 0, none⟩))) (w2.alloc (.cells (vc (new n m) h) 46))) := Lib.hid (by
    have hB2 : Below w1.heap.size w1 w2 := ((Below.refl _ _).alloc (Nat.le_refl _) _).trans (HBut.out.below (Nat.le_refl _))
    have hB3 : Below w1.heap.size w1 (w2.alloc (.cells (vc (new n m) h) 46)) := hB2.alloc hB2.size _
    exact ⟨_, rfl, HM.out.vb hB3 hB2.size (At.new w2 _ _) HZ.out, HM.out.below.trans (hB3.mono HM.out.below.size)⟩)
  go_ret
  exact FIN.out
set_option maxHeartbeats 2000000 in
set_option maxRecDepth 100000 in
theorem vnew_no (r c : Int) (h : sized r c = false) (w : World) : Calls Try.prog 11 #[.int .i64 r, .int .i64 c] w fun e w' => e = .returned (.pointer none) ∧ Below w.heap.size w w' := by
  have C := Lib.hid (fun W => new_no r c h W)
  clear h
  go_enter Try.func11, Try.ntmps11
  go_wp2_with fail
  go_at_call 24
  refine (C.out _).mono ?_
  rintro e w1 ⟨rfl, hB⟩
  have HB := Lib.hid hB
  have HN := Lib.hid (At.new w1 34 #[.int .i64 0, .int .i64 0, .slice none 0 0, .int .i64 0, .int .i64 0])
  clear hB C
  go_wp2_with (refine wpList_storeG rfl (.tmp 5) (.tmp 11) rfl w1.heap.size 0 0 0 0 none 0 0 rfl rfl _ HN.out rfl ?_; intro w2 hA2 hBut; have HBut := Lib.hid hBut; clear hA2 hBut)
  have FIN : Hid (Below w.heap.size w w2) := Lib.hid (HB.out.trans ((((Below.refl w1.heap.size w1).alloc (Nat.le_refl _) _).trans (HBut.out.below (Nat.le_refl _))).mono HB.out.size))
  go_ret
  exact ⟨rfl, FIN.out⟩

/-- What a terminal shows, told: a grid in memory of its own. -/
def Shown (s : Ts) (w : World) (e : Ending) (w' : World) : Prop := ∃ h, e = .returned (.agg #[.int .i64 s.n, .int .i64 s.m, .slice (some ⟨h, 0, none⟩) s.n s.n, .int .i64 s.r, .int .i64 s.k]) ∧ Own w' w.heap.size w'.heap.size (some ⟨h, 0, none⟩) s.n s.n s.ls ∧ Below w.heap.size w w'
theorem Ok.few {s : Ts} (h : Ok s) : few s.ls := few_may (g := gd s) h.may
theorem Vt.gr {w : World} {lo hi b : Nat} {s : Ts} (H : Vt w lo hi b s) : ∃ h, Gr w lo hi (some ⟨h, 0, none⟩) s.n s.n s.ls ∧ At w b 46 (vc s h) := by
  obtain ⟨h, g, hs, cs, o, H⟩ := H
  have hz := H.ok.size
  have hm : (1000 : Nat) ≤ maxLen := by unfold maxLen; omega
  exact ⟨h, H.wr.gr H.hh H.gg (by omega) (by omega), H.blk⟩
set_option maxHeartbeats 2000000 in
set_option maxRecDepth 100000 in
theorem grid_is (lo hi b : Nat) (s : Ts) (w : World) (H : Vt w lo hi b s) : Calls Try.prog 16 #[.pointer (some ⟨b, 0, none⟩)] w (Shown s w) := by
  have hH1 : Vt (w.alloc (.cells #[.int .i64 0, .int .i64 0, .slice none 0 0, .int .i64 0, .int .i64 0] 34)) lo hi b s := H.below ((Below.refl _ _).alloc (Nat.le_refl _) _) H.sz
  have CN := Lib.hid (isNone_no lo hi b s _ hH1)
  obtain ⟨h, hG, hA⟩ := hH1.gr
  have hz := hH1.sz
  have CC := Lib.hid (clone_is s.n s.m s.r s.k (some ⟨h, 0, none⟩) s.n s.n s.ls _ H.ok.few (hG.mono (Nat.zero_le _) hz))
  obtain ⟨n, m, ls, r, k, esc, pm⟩ := s
  obtain ⟨a0, a1, a2, a3, a4, _⟩ := At.ten hA
  dsimp only at a0 a1 a2 a3 a4 CC
  have HN := Lib.hid (At.new w 34 #[.int .i64 0, .int .i64 0, .slice none 0 0, .int .i64 0, .int .i64 0])
  have HB1 : Hid (Below w.heap.size w (w.alloc (.cells #[.int .i64 0, .int .i64 0, .slice none 0 0, .int .i64 0, .int .i64 0] 34))) := Lib.hid ((Below.refl _ _).alloc (Nat.le_refl _) _)
  have HS1 : Hid ((w.alloc (.cells #[.int .i64 0, .int .i64 0, .slice none 0 0, .int .i64 0, .int .i64 0] 34)).heap.size = w.heap.size + 1) := Lib.hid (by simp)
  clear H hH1 hG hA hz
  go_enter Try.func16, Try.ntmps16
  go_wp2_with fail
  generalize w.alloc (.cells #[.int .i64 0, .int .i64 0, .slice none 0 0, .int .i64 0, .int .i64 0] 34) = w1 at CN CC HN HB1 HS1 a0 a1 a2 a3 a4 ⊢
  go_at_call 29
  refine CN.out.mono ?_
  rintro e w' ⟨rfl, rfl⟩
  go_wp2_with fail
  go_at_call 23
  refine CC.out.mono ?_
  rintro e w2 ⟨h2, rfl, hO, hB⟩
  have HO := Lib.hid hO
  have HB2 := Lib.hid hB
  have HN2 := Lib.hid (HN.out.keep hB HN.out.lt)
  clear hO hB CN CC a0 a1 a2 a3 a4
  go_wp2_with (refine wpList_storeG rfl (.tmp 2) (.tmp 10) rfl w.heap.size n m r k (some ⟨h2, 0, none⟩) n n rfl rfl _ HN2.out rfl ?_; intro w3 hA3 hBut)
  obtain ⟨c0, c1, c2, c3, c4⟩ := hA3.five
  refine bodyPost_ret (v := .agg #[.int .i64 n, .int .i64 m, .slice (some ⟨h2, 0, none⟩) n n, .int .i64 r, .int .i64 k]) (by simp [results, Try.results16, go_sem, c0, c1, c2, c3, c4]) rfl ⟨h2, rfl, ?_, ?_⟩
  · have hs1 := HS1.out
    have hz3 := hBut.size
    exact (HO.out.keep (fun b h1 _ => hBut.block b (by omega))).mono (by omega) (by omega)
  · have hs1 := HS1.out
    exact (HB1.out.trans (HB2.out.mono (by omega))).trans (hBut.below (Nat.le_refl _))
set_option maxHeartbeats 2000000 in
set_option maxRecDepth 100000 in
theorem grid_nil (w : World) : Calls Try.prog 16 #[.pointer none] w fun e w' => e = .returned noGrid ∧ Below w.heap.size w w' := by
  have CN := Lib.hid (isNone_nil (w.alloc (.cells #[.int .i64 0, .int .i64 0, .slice none 0 0, .int .i64 0, .int .i64 0] 34)))
  have HN := Lib.hid (At.new w 34 #[.int .i64 0, .int .i64 0, .slice none 0 0, .int .i64 0, .int .i64 0])
  go_enter Try.func16, Try.ntmps16
  go_wp2_with fail
  go_at_call 29
  refine CN.out.mono ?_
  rintro e w' ⟨rfl, rfl⟩
  clear CN
  go_wp2_with (refine wpList_storeG rfl (.tmp 2) (.tmp 5) rfl w.heap.size 0 0 0 0 none 0 0 rfl rfl _ HN.out rfl ?_; intro w3 hA3 hBut)
  obtain ⟨c0, c1, c2, c3, c4⟩ := hA3.five
  exact bodyPost_ret (v := noGrid) (by simp [results, Try.results16, go_sem, c0, c1, c2, c3, c4]) rfl ⟨rfl, ((Below.refl _ _).alloc (Nat.le_refl _) _).trans (hBut.below (Nat.le_refl _))⟩
set_option maxHeartbeats 2000000 in
set_option maxRecDepth 100000 in
theorem grid_zero (b : Nat) (w : World) (hb : b < w.heap.size) (a5 : w.cell? ⟨b, 5, none⟩ = some .nilFunc) : Calls Try.prog 16 #[.pointer (some ⟨b, 0, none⟩)] w fun e w' => e = .returned noGrid ∧ Below w.heap.size w w' := by
  have CN := Lib.hid (isNone_zero b (w.alloc (.cells #[.int .i64 0, .int .i64 0, .slice none 0 0, .int .i64 0, .int .i64 0] 34)) ((World.cell?_alloc_lt w _ ⟨b, 5, none⟩ hb).trans a5))
  have HN := Lib.hid (At.new w 34 #[.int .i64 0, .int .i64 0, .slice none 0 0, .int .i64 0, .int .i64 0])
  clear a5
  go_enter Try.func16, Try.ntmps16
  go_wp2_with fail
  go_at_call 29
  refine CN.out.mono ?_
  rintro e w' ⟨rfl, rfl⟩
  clear CN
  go_wp2_with (refine wpList_storeG rfl (.tmp 2) (.tmp 5) rfl w.heap.size 0 0 0 0 none 0 0 rfl rfl _ HN.out rfl ?_; intro w3 hA3 hBut)
  obtain ⟨c0, c1, c2, c3, c4⟩ := hA3.five
  exact bodyPost_ret (v := noGrid) (by simp [results, Try.results16, go_sem, c0, c1, c2, c3, c4]) rfl ⟨rfl, ((Below.refl _ _).alloc (Nat.le_refl _) _).trans (hBut.below (Nat.le_refl _))⟩
end Go.Proofs.Yteekihhngjbjgaa.vtt
