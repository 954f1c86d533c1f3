/- The document's answer: a part. -/
import Derived.Test.YtmemdmjfccepgaaClsRefP
namespace Go.Proofs.Ytmemdmjfccepgaa.cls
open Go.RowKit Go.Lib
set_option linter.unusedVariables false
set_option linter.unusedSimpArgs false
set_option linter.unnecessarySimpa false
set_option linter.unusedSectionVars false

theorem extract_B (s : ByteArray) (a b : Nat) : s.extract a b = B ((s.data.toList.drop a).take (b - a)) := by rw [← Lib.extract_data, B_list]
theorem slice_mid (l : List UInt8) (a b : Nat) (ai bi : Int) (ha : ai = a) (hb : bi = b) (h1 : a ≤ b) (h2 : b ≤ l.length) (W : World) : (Instr.slice 9 (.string (B l)) (some (.int .i64 ai)) (some (.int .i64 bi)) none).run Try.prog W = .ok (.string (B ((l.drop a).take (b - a)))) W := by
  subst ha hb
  rw [run_slice_string (P := Try.prog) W 9 (B l) .i64 .i64 (a : Int) (b : Int) Try.underlying9 (by omega) (by omega) (by rw [B_size]; omega), Int.toNat_natCast, Int.toNat_natCast, extract_B, list_B]
theorem drop_two (l : List UInt8) (i : Nat) (h : i + 1 < l.length) : l.drop i = l.getD i 0 :: l.getD (i + 1) 0 :: l.drop (i + 2) := by
  have e1 : l.getD i 0 = l[i] := by simp [List.getD, List.getElem?_eq_getElem (show i < l.length by omega)]
  have e2 : l.getD (i + 1) 0 = l[i + 1] := by simp [List.getD, List.getElem?_eq_getElem h]
  rw [e1, e2, List.drop_eq_getElem_cons (by omega), List.drop_eq_getElem_cons (by omega)]
theorem drop_one' (l : List UInt8) (i : Nat) (h : i < l.length) : l.drop i = l.getD i 0 :: l.drop (i + 1) := by
  have e1 : l.getD i 0 = l[i] := by simp [List.getD, List.getElem?_eq_getElem h]
  rw [e1, List.drop_eq_getElem_cons h]
theorem cutE_here (l : List UInt8) (i : Nat) (h : i + 1 < l.length) (h1 : (l.getD i 0).toNat = 58) (h2 : (l.getD (i + 1) 0).toNat = 93) : cutE (l.drop i) = some ([], l.drop (i + 2)) := by
  have e1 : l.getD i 0 = 58 := UInt8.toNat_inj.1 h1
  have e2 : l.getD (i + 1) 0 = 93 := UInt8.toNat_inj.1 h2
  rw [drop_two l i h, e1, e2]
  unfold cutE
  rw [if_pos ⟨rfl, rfl⟩]
  rfl
theorem cutE_step (l : List UInt8) (i : Nat) (h : i + 1 < l.length) (hno : ¬ ((l.getD i 0).toNat = 58 ∧ (l.getD (i + 1) 0).toNat = 93)) : cutE (l.drop i) = (cutE (l.drop (i + 1))).map fun x => (l.getD i 0 :: x.1, x.2) := by
  rw [drop_one' l i (by omega)]
  conv => lhs; unfold cutE
  rw [if_neg]
  rintro ⟨a1, a2⟩
  refine hno ⟨by rw [a1]; rfl, ?_⟩
  rw [drop_one' l (i + 1) h] at a2
  simp only [List.head?_cons, Option.some.injEq] at a2
  rw [a2]; rfl
theorem cutE_end (l : List UInt8) (i : Nat) (h : l.length ≤ i + 1) : cutE (l.drop i) = none := by
  have hlen : (l.drop i).length ≤ 1 := by rw [List.length_drop]; omega
  match hl : l.drop i, hlen with
  | [], _ => rfl
  | [a], _ => simp [cutE]
theorem cutE_go (l : List UInt8) (a i : Nat) (ha : a ≤ i) (h : i + 1 < l.length) (hno : ¬ ((l.getD i 0).toNat = 58 ∧ (l.getD (i + 1) 0).toNat = 93))
    (hI : cutE (l.drop a) = (cutE (l.drop i)).map fun x => ((l.drop a).take (i - a) ++ x.1, x.2)) : cutE (l.drop a) = (cutE (l.drop (i + 1))).map fun x => ((l.drop a).take (i + 1 - a) ++ x.1, x.2) := by
  rw [hI, cutE_step l i h hno, Option.map_map]
  congr 1
  funext x
  have e : (l.drop a).take (i + 1 - a) = (l.drop a).take (i - a) ++ [l.getD i 0] := by
    have : i + 1 - a = (i - a) + 1 := by omega
    rw [this, List.take_add_one, List.getElem?_drop, show a + (i - a) = i by omega, List.getElem?_eq_getElem (show i < l.length by omega)]
    simp [List.getD, List.getElem?_eq_getElem (show i < l.length by omega)]
  show ((l.drop a).take (i - a) ++ (l.getD i 0 :: x.1), x.2) = _
  rw [e]
  simp
/-- What the document's part tells. -/
def RefSays (l : List UInt8) (R : Option ((Nat → Bool) × List UInt8)) (w : World) (e : Ending) (w' : World) : Prop :=
  Below w.heap.size w w' ∧ ((R = none ∧ ∃ z n, e = .returned (.tuple #[.agg (arr z), .int .i64 n, .bool false])) ∨ ∃ g r, R = some (g, r) ∧ e = .returned (.tuple #[.agg (arr g), .int .i64 ((l.length : Int) - r.length), .bool true]))
theorem hp2_at (l : List UInt8) (k : Nat) (h : k + 1 < l.length) (d : UInt8) : hp2 (l.drop k) d = (decide ((l.getD k 0).toNat = 91) && decide ((l.getD (k + 1) 0).toNat = d.toNat)) := by
  rw [drop_two l k h]
  have t : ∀ (a : UInt8) (n : UInt8), (a = n) = (a.toNat = n.toNat) := fun a n => propext UInt8.toNat_inj.symm
  unfold hp2
  rw [Bool.eq_iff_iff]
  simp only [List.head?_cons, List.drop_succ_cons, List.drop_zero, Option.some.injEq, Bool.and_eq_true, decide_eq_true_eq, t]
  rfl

set_option maxHeartbeats 4000000 in
set_option maxRecDepth 100000 in
theorem refPart_is (l : List UInt8) (k : Nat) (R : Option ((Nat → Bool) × List UInt8)) (hR : partN (l.drop k) = R) (w : World) (hl : l.length ≤ 1000000000) (hk : k ≤ l.length) :
    Calls Try.prog 21 #[.string (B l), .int .i64 (k : Int)] w (RefSays l R w) := by
  have HR := Lib.hid hR
  have HLL := Lib.hid hl
  obtain ⟨m, hm⟩ : ∃ m, l.length = m := ⟨_, rfl⟩
  have hsz : (B l).size = m := by rw [B_size]; exact hm
  have HM := Lib.hid hm
  rw [hm] at hl hk
  clear hR hm
  by_cases hend : m ≤ k
  · have hres : R = none := by
      rw [← HR.out, List.drop_eq_nil_of_le (by rw [HM.out]; exact hend)]
      rfl
    subst hres
    go_enter Try.func21, Try.ntmps21
    go_wp2_with (first | (refine wpList_allocA rfl rfl ?_; (first | (have := hs0; intro w1 hs1 ha1 hb1; clear this; have hh1 : Arr w1 (w.heap.size + 1) noB := (by rw [← hs0]; exact ha1); have hh0 := ha0.keep hb1 (by omega)) | (intro w0 hs0 ha0 hb0))) | (refine wpList_loadA rfl _ rfl _ rfl _ hh1 ?_) | (refine wpList_storeA rfl _ _ rfl _ _ rfl rfl _ hh0 ?_; intro w4 ha4 hb4))
    (try simp only [Exit.inBlock, Exit.then])
    refine bodyPost_ret (results_A3 rfl rfl ha4) rfl ?_
    exact ⟨(hb0.trans (hb1.mono (by omega))).trans (hb4.below (Nat.le_refl _)), .inl ⟨rfl, _, _, rfl⟩⟩
  · have CS := Lib.hid (fun W => special_is l k W HLL.out (by rw [HM.out]; omega))
    cases hop : opens (l.drop k) with
    | true =>
      rw [hop] at CS
      have hlen : k + 1 < m := by
        rcases Nat.lt_or_ge (k + 1) m with h | h
        · exact h
        · rw [opens_short l k (by rw [HM.out]; omega)] at hop; cases hop
      have i1 := index_at l (k + 1) ((k : Int) + 1) (by omega) (by rw [HM.out]; omega)
      obtain ⟨y, hy⟩ : ∃ y, (l.getD (k + 1) 0).toNat = y := ⟨_, rfl⟩
      have y6 : y < 256 := by rw [← hy]; exact (l.getD (k + 1) 0).toNat_lt
      rw [hy] at i1
      obtain ⟨x, hx⟩ : ∃ x, (l.getD k 0).toNat = x := ⟨_, rfl⟩
      have hol := opens_long l k (by rw [HM.out]; omega) x y hx hy
      rw [hop] at hol
      have hx91 : x = 91 := by simp at hol; exact hol.1
      have hpart : hp2 (l.drop k) 58 = decide (y = 58) := by
        rw [hp2_at l k (by rw [HM.out]; omega), hx, hx91, hy]
        simp
      have hne : l.drop k ≠ [] := by rw [drop_two l k (by rw [HM.out]; omega)]; simp
      by_cases h58 : y = 58
      · subst h58
        have hN : nameN (l.drop (k + 2)) = R := by
          rw [← HR.out]
          unfold partN
          rw [if_neg hne, if_pos (by rw [hpart]; rfl), List.drop_drop]
        have HN := Lib.hid hN
        clear hop hol hx hx91 hpart hne hy hN HR
        go_enter Try.func21, Try.ntmps21
        go_wp2_with (refine wpList_allocA rfl rfl ?_; (first | (have := hs0; intro w1 hs1 ha1 hb1; clear this) | (intro w0 hs0 ha0 hb0)))
        have HB := Lib.hid (hb0.trans (hb1.mono (by omega)))
        have H0 := Lib.hid (ha0.keep hb1 (by omega))
        have H1 : Hid (Arr w1 (w.heap.size + 1) noB) := Lib.hid (by rw [← hs0]; exact ha1)
        have HS := Lib.hid (show w1.heap.size = w.heap.size + 2 by omega)
        clear ha0 hb0 ha1 hb1 hs1
        go_at_call 28
        refine (CS.out _).mono ?_
        rintro e w2 ⟨rfl, rfl⟩
        go_wp2
        go_loopg [8] m (fun g' s8 wr => ∃ i : Nat, s8 = .int .i64 i ∧ k + 2 ≤ i ∧ i ≤ m ∧ m - i ≤ g' ∧ wr = w2 ∧ Hid (cutE (l.drop (k + 2)) = (cutE (l.drop i)).map fun x => ((l.drop (k + 2)).take (i - (k + 2)) ++ x.1, x.2)))
        case atStart => exact ⟨k + 2, by go_num, Nat.le_refl _, by omega, by omega, rfl, Lib.hid (by simp)⟩
        case round =>
          obtain ⟨i, rfl, hki, him, hg, hwr, HI⟩ := hrel
          have hwr := hwr.symm
          subst hwr
          by_cases hlast : i + 1 < m
          · have j0 := index_at l i i rfl (by rw [HM.out]; omega)
            have j1 := index_at l (i + 1) ((i : Int) + 1) (by omega) (by rw [HM.out]; omega)
            obtain ⟨a, ha⟩ : ∃ a, (l.getD i 0).toNat = a := ⟨_, rfl⟩
            obtain ⟨b, hb⟩ : ∃ b, (l.getD (i + 1) 0).toNat = b := ⟨_, rfl⟩
            have a6 : a < 256 := by rw [← ha]; exact (l.getD i 0).toNat_lt
            have b6 : b < 256 := by rw [← hb]; exact (l.getD (i + 1) 0).toNat_lt
            rw [ha] at j0
            rw [hb] at j1
            by_cases hab : a = 58 ∧ b = 93
            · obtain ⟨rfl, rfl⟩ := hab
              have hcut : cutE (l.drop (k + 2)) = some ((l.drop (k + 2)).take (i - (k + 2)), l.drop (i + 2)) := by
                rw [HI.out, cutE_here l i (by rw [HM.out]; omega) ha hb]
                simp
              have sm := slice_mid l (k + 2) i ((k : Int) + 2) i (by omega) rfl hki (by rw [HM.out]; omega)
              obtain ⟨nm, hnm⟩ : ∃ nm, (l.drop (k + 2)).take (i - (k + 2)) = nm := ⟨_, rfl⟩
              rw [hnm] at sm hcut
              have hlr : (l.drop (i + 2)).length = m - (i + 2) := by rw [List.length_drop, HM.out]
              have HLR := Lib.hid hlr
              cases hcls : clsOf nm with
              | none =>
                have CC := Lib.hid (fun W => refClass_is nm noB false (by simp [clsG, hcls]) (by rw [hcls]; rfl) W)
                have hres : R = none := by rw [← HN.out]; exact nameN_none2 _ _ hcut hcls
                subst hres
                clear hcut hcls hnm hlr ha hb
                go_wp2_with fail
                go_at_call 14
                refine (CC.out _).mono ?_
                rintro e w5 ⟨rfl, hb5⟩
                have hz5 := hb5.size
                have hq0 := H0.out.keep hb5 (by have := HS.out; omega)
                go_wp2_with (first | (refine wpList_allocA rfl rfl ?_; intro w6 hs6 ha6 hb6; have hq1 := hq0.keep hb6 (by have := HS.out; omega)) | (refine wpList_storeA rfl _ _ rfl _ _ rfl rfl _ ha6 ?_; intro w8 ha8 hb8; have hq2 := hq1.but hb8 (by have := HS.out; omega)) | (refine wpList_loadA rfl _ rfl _ rfl _ ha8 ?_) | (refine wpList_storeA rfl _ _ rfl _ _ rfl rfl _ hq2 ?_; intro w7 ha7 hb7))
                have HE : Hid (Below w.heap.size w w8 ∧ True) := Lib.hid ⟨((HB.out.trans (hb5.mono (by have := HS.out; omega))).trans (hb6.mono (by have := HS.out; omega))).trans (hb8.below (by have := HS.out; omega)), trivial⟩
                (try simp only [Exit.inBlock, Exit.then])
                refine bodyPost_ret (results_A3 rfl rfl ha7) rfl ?_
                exact ⟨HE.out.1.trans (hb7.below (Nat.le_refl _)), .inl ⟨rfl, _, _, rfl⟩⟩
              | some g =>
                have CC := Lib.hid (fun W => refClass_is nm g true (by simp [clsG, hcls]) (by rw [hcls]; rfl) W)
                have hres : R = some (g, l.drop (i + 2)) := by rw [← HN.out]; exact nameN_eq _ _ _ _ hcut hcls
                subst hres
                clear hcut hcls hnm hlr ha hb
                go_wp2_with fail
                go_at_call 14
                refine (CC.out _).mono ?_
                rintro e w5 ⟨rfl, hb5⟩
                have hz5 := hb5.size
                have hq0 := H0.out.keep hb5 (by have := HS.out; omega)
                go_wp2_with (first | (refine wpList_allocA rfl rfl ?_; intro w6 hs6 ha6 hb6; have hq1 := hq0.keep hb6 (by have := HS.out; omega)) | (refine wpList_storeA rfl _ _ rfl _ _ rfl rfl _ ha6 ?_; intro w8 ha8 hb8; have hq2 := hq1.but hb8 (by have := HS.out; omega)) | (refine wpList_loadA rfl _ rfl _ rfl _ ha8 ?_) | (refine wpList_storeA rfl _ _ rfl _ _ rfl rfl _ hq2 ?_; intro w7 ha7 hb7))
                have HE : Hid (Below w.heap.size w w8 ∧ True) := Lib.hid ⟨((HB.out.trans (hb5.mono (by have := HS.out; omega))).trans (hb6.mono (by have := HS.out; omega))).trans (hb8.below (by have := HS.out; omega)), trivial⟩
                (try simp only [Exit.inBlock, Exit.then])
                refine bodyPost_ret (results_A3 rfl rfl ha7) rfl ?_
                refine ⟨HE.out.1.trans (hb7.below (Nat.le_refl _)), .inr ⟨_, _, rfl, ?_⟩⟩
                have e9 : ((l.length : Int) - (l.drop (i + 2)).length) = (i : Int) + 2 := by rw [HLR.out, HM.out]; omega
                rw [e9]
                rfl
            · have HX := Lib.hid (cutE_go l (k + 2) i hki (by rw [HM.out]; omega) (by rw [ha, hb]; exact hab) HI.out)
              clear ha hb
              by_cases h1 : a = 58
              · subst h1
                have h2 : ((b : Int) == 93) = false := by simpa using (by omega : ¬ (b : Int) = 93)
                go_wp2
                go_roundg (m - (i + 1))
                case measure => omega
                case rel => exact ⟨i + 1, by go_num, by omega, by omega, by omega, rfl, HX⟩
              · have h2 : ((a : Int) == 58) = false := by simpa using (by omega : ¬ (a : Int) = 58)
                go_wp2
                go_roundg (m - (i + 1))
                case measure => omega
                case rel => exact ⟨i + 1, by go_num, by omega, by omega, by omega, rfl, HX⟩
          · have hres : R = none := by
              rw [← HN.out]
              refine nameN_none1 _ ?_
              rw [HI.out, cutE_end l i (by rw [HM.out]; omega)]
              rfl
            subst hres
            go_wp2_with (first | (refine wpList_loadA rfl _ rfl _ rfl _ H1.out ?_) | (refine wpList_storeA rfl _ _ rfl _ _ rfl rfl _ H0.out ?_; intro w4 ha4 hb4))
            (try simp only [Exit.inBlock, Exit.then])
            refine bodyPost_ret (results_A3 rfl rfl ha4) rfl ?_
            exact ⟨HB.out.trans (hb4.below (Nat.le_refl _)), .inl ⟨rfl, _, _, rfl⟩⟩
      · have hres : R = none := by
          rw [← HR.out]
          unfold partN
          rw [if_neg hne, if_neg (by rw [hpart]; simp [h58]), if_pos hop]
        subst hres
        have t58 : ((y : Int) == 58) = false := by simpa using (by omega : ¬ (y : Int) = 58)
        clear hop hol hx hx91 hpart hne hy HR
        go_enter Try.func21, Try.ntmps21
        go_wp2_with (refine wpList_allocA rfl rfl ?_; (first | (have := hs0; intro w1 hs1 ha1 hb1; clear this) | (intro w0 hs0 ha0 hb0)))
        have HB := Lib.hid (hb0.trans (hb1.mono (by omega)))
        have H0 := Lib.hid (ha0.keep hb1 (by omega))
        have H1 : Hid (Arr w1 (w.heap.size + 1) noB) := Lib.hid (by rw [← hs0]; exact ha1)
        have HS := Lib.hid (show w1.heap.size = w.heap.size + 2 by omega)
        clear ha0 hb0 ha1 hb1 hs1
        go_at_call 28
        refine (CS.out _).mono ?_
        rintro e w2 ⟨rfl, rfl⟩
        go_wp2
        go_loopg [8] 0 (fun g' s8 wr => s8 = .int .i64 ((k : Int) + 2) ∧ wr = w2)
        case atStart => exact ⟨rfl, rfl⟩
        case round =>
          obtain ⟨rfl, hwr⟩ := hrel
          have hwr := hwr.symm
          subst hwr
          by_cases hlast : k + 2 + 1 < m
          · go_wp2_with (first | (refine wpList_loadA rfl _ rfl _ rfl _ H1.out ?_) | (refine wpList_storeA rfl _ _ rfl _ _ rfl rfl _ H0.out ?_; intro w4 ha4 hb4))
            (try simp only [Exit.inBlock, Exit.then])
            refine bodyPost_ret (results_A3 rfl rfl ha4) rfl ?_
            exact ⟨HB.out.trans (hb4.below (Nat.le_refl _)), .inl ⟨rfl, _, _, rfl⟩⟩
          · go_wp2_with (first | (refine wpList_loadA rfl _ rfl _ rfl _ H1.out ?_) | (refine wpList_storeA rfl _ _ rfl _ _ rfl rfl _ H0.out ?_; intro w4 ha4 hb4))
            (try simp only [Exit.inBlock, Exit.then])
            refine bodyPost_ret (results_A3 rfl rfl ha4) rfl ?_
            exact ⟨HB.out.trans (hb4.below (Nat.le_refl _)), .inl ⟨rfl, _, _, rfl⟩⟩
    | false =>
      rw [hop] at CS
      have hne : l.drop k ≠ [] := by rw [drop_one' l k (by rw [HM.out]; omega)]; simp
      have h58 : hp2 (l.drop k) 58 = false := by
        unfold opens at hop
        simp only [Bool.or_eq_false_iff] at hop
        exact hop.1.1
      have j0 := index_at l k k rfl (by rw [HM.out]; omega)
      obtain ⟨a, ha⟩ : ∃ a, (l.getD k 0).toNat = a := ⟨_, rfl⟩
      have a6 : a < 256 := by rw [← ha]; exact (l.getD k 0).toNat_lt
      rw [ha] at j0
      have gd : ∀ i, (l.drop k).getD i 0 = l.getD (k + i) 0 := fun i => by simp [List.getD, List.getElem?_drop]
      have hdl : (l.drop k).length = m - k := by rw [List.length_drop, HM.out]
      cases hrg : isRng (l.drop k) with
      | true =>
        have hrg' := hrg
        unfold isRng at hrg'
        simp only [Bool.and_eq_true, decide_eq_true_eq, gd, hdl] at hrg'
        obtain ⟨⟨hl3, hy⟩, hz⟩ := hrg'
        have i1 := index_at l (k + 1) ((k : Int) + 1) (by omega) (by rw [HM.out]; omega)
        have i2 := index_at l (k + 2) ((k : Int) + 2) (by omega) (by rw [HM.out]; omega)
        rw [show (l.getD (k + 1) 0).toNat = 45 by rw [hy]; rfl] at i1
        obtain ⟨c, hc⟩ : ∃ c, (l.getD (k + 2) 0).toNat = c := ⟨_, rfl⟩
        have c6 : c < 256 := by rw [← hc]; exact (l.getD (k + 2) 0).toNat_lt
        rw [hc] at i2
        have c93 : ¬ c = 93 := fun e => hz (UInt8.toNat_inj.1 (by rw [hc, e]; rfl))
        have t93 : ((c : Int) != 93) = true := by simpa using (by omega : ¬ (c : Int) = 93)
        have hres : R = if c < a ∨ opens (l.drop (k + 2)) = true then none else some (btw a c, l.drop (k + 3)) := by
          rw [← HR.out]
          unfold partN
          rw [if_neg hne, if_neg (by rw [h58]; decide), if_neg (by rw [hop]; decide), if_pos hrg, gd 0, gd 2, List.drop_drop, List.drop_drop, hc, Nat.add_zero, ha]
        have HRR := Lib.hid hres
        have C4 := fun W => special_is l (k + 2) W HLL.out (by rw [HM.out]; omega)
        have ek : (((k + 2 : Nat)) : Int) = (k : Int) + 2 := by omega
        rw [ek] at C4
        have wr2 : IntKind.i64.wrap ((k : Int) + 2) = (k : Int) + 2 := by rw [IntKind.wrap_i64]; omega
        clear hne h58 hop hrg hy hz ha hc gd hdl hres HR ek c93
        by_cases hca : c < a
        · have hres : R = none := by rw [HRR.out, if_pos (.inl hca)]
          subst hres
          have hd : decide ((c : Int) < (a : Int)) = true := decide_eq_true (by omega)
          clear C4
          go_enter Try.func21, Try.ntmps21
          go_wp2_with (refine wpList_allocA rfl rfl ?_; (first | (have := hs0; intro w1 hs1 ha1 hb1; clear this) | (intro w0 hs0 ha0 hb0)))
          have HB := Lib.hid (hb0.trans (hb1.mono (by omega)))
          have H0 := Lib.hid (ha0.keep hb1 (by omega))
          have H1 : Hid (Arr w1 (w.heap.size + 1) noB) := Lib.hid (by rw [← hs0]; exact ha1)
          have HS := Lib.hid (show w1.heap.size = w.heap.size + 2 by omega)
          clear ha0 hb0 ha1 hb1 hs1
          go_at_call 28
          refine (CS.out _).mono ?_
          rintro e w2 ⟨rfl, rfl⟩
          go_wp2
          go_quiet (fail)
          go_wp2_with (first | (refine wpList_loadA rfl _ rfl _ rfl _ (H1.out.drewN _) ?_) | (refine wpList_storeA rfl _ _ rfl _ _ rfl rfl _ (H0.out.drewN _) ?_; intro w4 ha4 hb4))
          (try simp only [Exit.inBlock, Exit.then])
          refine bodyPost_ret (results_A3 rfl rfl ha4) rfl ?_
          exact ⟨(below_drewN HB.out _).trans (hb4.below (Nat.le_refl _)), .inl ⟨rfl, _, _, rfl⟩⟩
        · have hd : decide ((c : Int) < (a : Int)) = false := decide_eq_false (by omega)
          cases ho2 : opens (l.drop (k + 2)) with
          | true =>
            have hres : R = none := by rw [HRR.out, if_pos (.inr ho2)]
            subst hres
            rw [ho2] at C4
            have D4 := Lib.hid C4
            clear C4 ho2 HRR
            go_enter Try.func21, Try.ntmps21
            go_wp2_with (refine wpList_allocA rfl rfl ?_; (first | (have := hs0; intro w1 hs1 ha1 hb1; clear this) | (intro w0 hs0 ha0 hb0)))
            have HB := Lib.hid (hb0.trans (hb1.mono (by omega)))
            have H0 := Lib.hid (ha0.keep hb1 (by omega))
            have H1 : Hid (Arr w1 (w.heap.size + 1) noB) := Lib.hid (by rw [← hs0]; exact ha1)
            have HS := Lib.hid (show w1.heap.size = w.heap.size + 2 by omega)
            clear ha0 hb0 ha1 hb1 hs1
            go_at_call 28
            refine (CS.out _).mono ?_
            rintro e w2 ⟨rfl, rfl⟩
            go_wp2
            go_quiet ((go_at_call 28; refine Calls.quiet_of_same (D4.out _)))
            go_wp2_with (first | (refine wpList_loadA rfl _ rfl _ rfl _ (H1.out.drewN _) ?_) | (refine wpList_storeA rfl _ _ rfl _ _ rfl rfl _ (H0.out.drewN _) ?_; intro w4 ha4 hb4))
            (try simp only [Exit.inBlock, Exit.then])
            refine bodyPost_ret (results_A3 rfl rfl ha4) rfl ?_
            exact ⟨(below_drewN HB.out _).trans (hb4.below (Nat.le_refl _)), .inl ⟨rfl, _, _, rfl⟩⟩
          | false =>
            have hres : R = some (btw a c, l.drop (k + 3)) := by rw [HRR.out, if_neg (by rw [ho2]; simp; omega)]
            subst hres
            rw [ho2] at C4
            have D4 := Lib.hid C4
            have HL3 := Lib.hid hl3
            clear C4 ho2 HRR
            go_enter Try.func21, Try.ntmps21
            go_wp2_with (refine wpList_allocA rfl rfl ?_; (first | (have := hs0; intro w1 hs1 ha1 hb1; clear this) | (intro w0 hs0 ha0 hb0)))
            have HB := Lib.hid (hb0.trans (hb1.mono (by omega)))
            have H0 := Lib.hid (ha0.keep hb1 (by omega))
            have H1 : Hid (Arr w1 (w.heap.size + 1) noB) := Lib.hid (by rw [← hs0]; exact ha1)
            have HS := Lib.hid (show w1.heap.size = w.heap.size + 2 by omega)
            clear ha0 hb0 ha1 hb1 hs1
            go_at_call 28
            refine (CS.out _).mono ?_
            rintro e w2 ⟨rfl, rfl⟩
            go_wp2
            go_quiet ((go_at_call 28; refine Calls.quiet_of_same (D4.out _)))
            go_wp2
            rename_i nq
            go_loopg [11] 256 (fun g' s11 wr => ∃ i : Nat, s11 = .int .i64 i ∧ a ≤ i ∧ i ≤ 256 ∧ (i ≤ c + 1 ∨ i = a) ∧ 256 - i ≤ g' ∧ Hid (Arr wr (w.heap.size + 1) (fun b => noB b || (decide (a ≤ b) && decide (b < i))) ∧ But (w.heap.size + 1) w2 wr))
            case atStart =>
              refine ⟨a, rfl, Nat.le_refl _, by omega, .inr rfl, by omega, Lib.hid ⟨?_, But.refl.drewN _⟩⟩
              have e : (fun b => noB b || (decide (a ≤ b) && decide (b < a))) = noB := by
                funext b
                have : (decide (a ≤ b) && decide (b < a)) = false := by simp
                rw [this, Bool.or_false]
              rw [e]; exact H1.out.drewN _
            case round =>
              obtain ⟨i, rfl, h1, h2, h3, hg, HI⟩ := hrel
              have H3 := Lib.hid h3
              clear h3
              by_cases hlt : i ≤ c
              · have hi : i < 256 := by omega
                have hcell := HI.out.1.cell hi
                have hst := setCell_put HI.out.1 i true hi
                rw [lay_upd noB a i h1] at hst
                have hfz := HI.out.1.frozen i
                have HP := Lib.hid (And.intro (putA_arr (g := fun b => noB b || (decide (a ≤ b) && decide (b < i + 1))) HI.out.1.lt) (putA_but (w := wr) (b := w.heap.size + 1) (g := fun b => noB b || (decide (a ≤ b) && decide (b < i + 1)))))
                obtain ⟨x, hx⟩ : ∃ x, (fun b => noB b || (decide (a ≤ b) && decide (b < i))) i = x := ⟨_, rfl⟩
                rw [show (noB i || (decide (a ≤ i) && decide (i < i))) = x from hx] at hcell
                obtain ⟨wx, hwx⟩ : ∃ wx, putA wr (w.heap.size + 1) (fun b => noB b || (decide (a ≤ b) && decide (b < i + 1))) = wx := ⟨_, rfl⟩
                rw [hwx] at hst HP
                clear hwx hx
                go_wp2
                go_roundg (256 - (i + 1))
                case measure => omega
                case rel => exact ⟨i + 1, by go_num, by omega, by omega, .inl (by omega), by omega, Lib.hid ⟨HP.out.1, HI.out.2.trans HP.out.2⟩⟩
              · have hA' : Arr wr (w.heap.size + 1) (btw a c) := by
                  have := HI.out.1
                  unfold Arr at this ⊢
                  rw [this]
                  congr 2
                  refine arr_ext fun b hb => ?_
                  have h3 := H3.out
                  show (noB b || (decide (a ≤ b) && decide (b < i))) = btw a c b
                  unfold noB btw
                  rw [Bool.eq_iff_iff]
                  simp only [Bool.or_eq_true, Bool.and_eq_true, decide_eq_true_eq, Bool.false_eq_true, false_or]
                  omega
                have hA0 : Arr wr w.heap.size noB := H0.out.but HI.out.2 (by omega)
                go_wp2_with (first | (refine wpList_loadA rfl _ rfl _ rfl _ hA' ?_) | (refine wpList_storeA rfl _ _ rfl _ _ rfl rfl _ hA0 ?_; intro w4 ha4 hb4))
                (try simp only [Exit.inBlock, Exit.then])
                refine bodyPost_ret (results_A3 rfl rfl ha4) rfl ?_
                refine ⟨(HB.out.trans (HI.out.2.below (by omega))).trans (hb4.below (Nat.le_refl _)), .inr ⟨_, _, rfl, ?_⟩⟩
                have e9 : ((l.length : Int) - (l.drop (k + 3)).length) = (k : Int) + 3 := by rw [List.length_drop, HM.out]; have := HL3.out; omega
                rw [e9]
                rfl
      | false =>
        have hres : R = some (one a, l.drop (k + 1)) := by
          rw [← HR.out]
          unfold partN
          rw [if_neg hne, if_neg (by rw [h58]; decide), if_neg (by rw [hop]; decide), if_neg (by rw [hrg]; decide), gd 0, List.drop_drop, Nat.add_zero, ha]
        subst hres
        have hno : k + 2 < m → ¬ ((l.getD (k + 1) 0).toNat = 45 ∧ ¬ (l.getD (k + 2) 0).toNat = 93) := fun h2 h => by
          have : isRng (l.drop k) = true := by
            unfold isRng
            simp only [Bool.and_eq_true, decide_eq_true_eq, gd, hdl]
            refine ⟨⟨by omega, UInt8.toNat_inj.1 (by rw [h.1]; rfl)⟩, fun e => h.2 (by rw [e]; rfl)⟩
          rw [hrg] at this
          cases this
        clear hne h58 hop hrg ha gd hdl HR
        by_cases h2 : k + 2 < m
        · have i1 := index_at l (k + 1) ((k : Int) + 1) (by omega) (by rw [HM.out]; omega)
          have i2 := index_at l (k + 2) ((k : Int) + 2) (by omega) (by rw [HM.out]; omega)
          obtain ⟨y, hy⟩ : ∃ y, (l.getD (k + 1) 0).toNat = y := ⟨_, rfl⟩
          obtain ⟨z, hz⟩ : ∃ z, (l.getD (k + 2) 0).toNat = z := ⟨_, rfl⟩
          have y6 : y < 256 := by rw [← hy]; exact (l.getD (k + 1) 0).toNat_lt
          have z6 : z < 256 := by rw [← hz]; exact (l.getD (k + 2) 0).toNat_lt
          rw [hy] at i1
          rw [hz] at i2
          have hn := hno h2
          rw [hy, hz] at hn
          clear hno hy hz
          by_cases h45 : y = 45
          · subst h45
            have hz93 : z = 93 := by
              rcases Nat.decEq z 93 with h | h
              · exact absurd ⟨rfl, h⟩ hn
              · exact h
            subst hz93
            clear hn
            go_enter Try.func21, Try.ntmps21
            go_wp2_with (refine wpList_allocA rfl rfl ?_; (first | (have := hs0; intro w1 hs1 ha1 hb1; clear this) | (intro w0 hs0 ha0 hb0)))
            have HB := Lib.hid (hb0.trans (hb1.mono (by omega)))
            have H0 := Lib.hid (ha0.keep hb1 (by omega))
            have H1 : Hid (Arr w1 (w.heap.size + 1) noB) := Lib.hid (by rw [← hs0]; exact ha1)
            have HS := Lib.hid (show w1.heap.size = w.heap.size + 2 by omega)
            clear ha0 hb0 ha1 hb1 hs1
            have hcell := H1.out.cell a6
            have hst := setCell_put H1.out a true a6
            have hfz := H1.out.frozen a
            have HP := Lib.hid (And.intro (putA_arr (g := upd noB a true) H1.out.lt) (putA_but (w := w1) (b := w.heap.size + 1) (g := upd noB a true)))
            obtain ⟨wx, hwx⟩ : ∃ wx, putA w1 (w.heap.size + 1) (upd noB a true) = wx := ⟨_, rfl⟩
            rw [hwx] at hst HP
            clear hwx
            have hA0 : Arr wx w.heap.size noB := H0.out.but HP.out.2 (by omega)
            have HA1 := HP.out.1
            go_at_call 28
            refine (CS.out _).mono ?_
            rintro e w2 ⟨rfl, rfl⟩
            go_wp2_with (first | (refine wpList_loadA rfl _ rfl _ rfl _ HA1 ?_) | (refine wpList_storeA rfl _ _ rfl _ _ rfl rfl _ hA0 ?_; intro w4 ha4 hb4))
            (try simp only [Exit.inBlock, Exit.then])
            refine bodyPost_ret (results_A3 rfl rfl ha4) rfl ?_
            refine ⟨(HB.out.trans (HP.out.2.below (by omega))).trans (hb4.below (Nat.le_refl _)), .inr ⟨_, _, rfl, ?_⟩⟩
            have e9 : ((l.length : Int) - (l.drop (k + 1)).length) = (k : Int) + 1 := by rw [List.length_drop, HM.out]; omega
            have e8 : arr (upd noB a true) = arr (one a) := arr_ext fun b hb => by unfold upd one noB; by_cases hc : b = a <;> simp [hc]
            rw [e9, ← e8]
            rfl
          · have t45 : ((y : Int) == 45) = false := by simpa using (by omega : ¬ (y : Int) = 45)
            clear hn
            go_enter Try.func21, Try.ntmps21
            go_wp2_with (refine wpList_allocA rfl rfl ?_; (first | (have := hs0; intro w1 hs1 ha1 hb1; clear this) | (intro w0 hs0 ha0 hb0)))
            have HB := Lib.hid (hb0.trans (hb1.mono (by omega)))
            have H0 := Lib.hid (ha0.keep hb1 (by omega))
            have H1 : Hid (Arr w1 (w.heap.size + 1) noB) := Lib.hid (by rw [← hs0]; exact ha1)
            have HS := Lib.hid (show w1.heap.size = w.heap.size + 2 by omega)
            clear ha0 hb0 ha1 hb1 hs1
            have hcell := H1.out.cell a6
            have hst := setCell_put H1.out a true a6
            have hfz := H1.out.frozen a
            have HP := Lib.hid (And.intro (putA_arr (g := upd noB a true) H1.out.lt) (putA_but (w := w1) (b := w.heap.size + 1) (g := upd noB a true)))
            obtain ⟨wx, hwx⟩ : ∃ wx, putA w1 (w.heap.size + 1) (upd noB a true) = wx := ⟨_, rfl⟩
            rw [hwx] at hst HP
            clear hwx
            have hA0 : Arr wx w.heap.size noB := H0.out.but HP.out.2 (by omega)
            have HA1 := HP.out.1
            go_at_call 28
            refine (CS.out _).mono ?_
            rintro e w2 ⟨rfl, rfl⟩
            go_wp2_with (first | (refine wpList_loadA rfl _ rfl _ rfl _ HA1 ?_) | (refine wpList_storeA rfl _ _ rfl _ _ rfl rfl _ hA0 ?_; intro w4 ha4 hb4))
            (try simp only [Exit.inBlock, Exit.then])
            refine bodyPost_ret (results_A3 rfl rfl ha4) rfl ?_
            refine ⟨(HB.out.trans (HP.out.2.below (by omega))).trans (hb4.below (Nat.le_refl _)), .inr ⟨_, _, rfl, ?_⟩⟩
            have e9 : ((l.length : Int) - (l.drop (k + 1)).length) = (k : Int) + 1 := by rw [List.length_drop, HM.out]; omega
            have e8 : arr (upd noB a true) = arr (one a) := arr_ext fun b hb => by unfold upd one noB; by_cases hc : b = a <;> simp [hc]
            rw [e9, ← e8]
            rfl
        · clear hno
          go_enter Try.func21, Try.ntmps21
          go_wp2_with (refine wpList_allocA rfl rfl ?_; (first | (have := hs0; intro w1 hs1 ha1 hb1; clear this) | (intro w0 hs0 ha0 hb0)))
          have HB := Lib.hid (hb0.trans (hb1.mono (by omega)))
          have H0 := Lib.hid (ha0.keep hb1 (by omega))
          have H1 : Hid (Arr w1 (w.heap.size + 1) noB) := Lib.hid (by rw [← hs0]; exact ha1)
          have HS := Lib.hid (show w1.heap.size = w.heap.size + 2 by omega)
          clear ha0 hb0 ha1 hb1 hs1
          have hcell := H1.out.cell a6
          have hst := setCell_put H1.out a true a6
          have hfz := H1.out.frozen a
          have HP := Lib.hid (And.intro (putA_arr (g := upd noB a true) H1.out.lt) (putA_but (w := w1) (b := w.heap.size + 1) (g := upd noB a true)))
          obtain ⟨wx, hwx⟩ : ∃ wx, putA w1 (w.heap.size + 1) (upd noB a true) = wx := ⟨_, rfl⟩
          rw [hwx] at hst HP
          clear hwx
          have hA0 : Arr wx w.heap.size noB := H0.out.but HP.out.2 (by omega)
          have HA1 := HP.out.1
          go_at_call 28
          refine (CS.out _).mono ?_
          rintro e w2 ⟨rfl, rfl⟩
          go_wp2_with (first | (refine wpList_loadA rfl _ rfl _ rfl _ HA1 ?_) | (refine wpList_storeA rfl _ _ rfl _ _ rfl rfl _ hA0 ?_; intro w4 ha4 hb4))
          (try simp only [Exit.inBlock, Exit.then])
          refine bodyPost_ret (results_A3 rfl rfl ha4) rfl ?_
          refine ⟨(HB.out.trans (HP.out.2.below (by omega))).trans (hb4.below (Nat.le_refl _)), .inr ⟨_, _, rfl, ?_⟩⟩
          have e9 : ((l.length : Int) - (l.drop (k + 1)).length) = (k : Int) + 1 := by rw [List.length_drop, HM.out]; omega
          have e8 : arr (upd noB a true) = arr (one a) := arr_ext fun b hb => by unfold upd one noB; by_cases hc : b = a <;> simp [hc]
          rw [e9, ← e8]
          rfl
end Go.Proofs.Ytmemdmjfccepgaa.cls
