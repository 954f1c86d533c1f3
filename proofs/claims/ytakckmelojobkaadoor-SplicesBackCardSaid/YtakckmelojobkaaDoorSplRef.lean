/- Splices: the document's Check and Apply. -/
import Derived.Test.YtakckmelojobkaaDoorSplInv
namespace Go.Proofs.YtakckmelojobkaaDoor.sps
open Go.RowKit Go.Lib pce
set_option linter.unusedVariables false
set_option linter.unusedSimpArgs false
set_option linter.unnecessarySimpa false
set_option linter.unusedSectionVars false

set_option maxHeartbeats 1000000 in
set_option maxRecDepth 100000 in
theorem refCheck_is (a d : Int) (A : Option Addr) (n c : Nat) (ins : List ByteArray) (w : World) (k : Int) (hk : chkS a d ins = k) (ha1 : -9223372036854775808 ≤ a) (ha2 : a ≤ 9223372036854775807) (hd1 : -9223372036854775808 ≤ d) (hd2 : d ≤ 9223372036854775807)
    (hn : n = ins.length) (hb : n ≤ 100000) (hz : ∀ z ∈ ins, z.size ≤ maxLen) (h : SRd w w.heap.size A ins) :
    Calls Tryd.prog 19 #[.agg #[.int .i64 a, .int .i64 d, .slice A n c]] w fun e w' => e = .returned (.int .i64 k) ∧ Below w.heap.size w w' := by
  have C := Lib.hid (fun (W : World) (q : Int) (hq : chk ins = q) (hW : Below w.heap.size w W) => refChk A c n ins W q hq hn hb hz ((h.below hW).more hW.size))
  have HK := Lib.hid hk
  clear hk hn h hz
  by_cases h1 : a < 0
  · obtain rfl : k = 2 := by have := HK.out; unfold chkS at this; rw [if_pos (.inl h1)] at this; exact this.symm
    go_enter Tryd.func19, Tryd.ntmps19
    go_wp2
    go_ret
    exact ⟨rfl, (Below.refl _ _).alloc (Nat.le_refl _) _⟩
  by_cases h2 : d < 0
  · obtain rfl : k = 2 := by have := HK.out; unfold chkS at this; rw [if_pos (.inr h2)] at this; exact this.symm
    go_enter Tryd.func19, Tryd.ntmps19
    go_wp2
    go_ret
    exact ⟨rfl, (Below.refl _ _).alloc (Nat.le_refl _) _⟩
  have HC : Hid (chk ins = k) := Lib.hid (by have := HK.out; unfold chkS at this; rw [if_neg (by omega)] at this; exact this)
  go_enter Tryd.func19, Tryd.ntmps19
  go_wp2_with fail
  go_at_call 32
  have hB0 : Below w.heap.size w (w.alloc (.cells #[.int .i64 a, .int .i64 d, .slice A n c] 24)) := (Below.refl _ _).alloc (Nat.le_refl _) _
  refine (C.out _ k HC.out hB0).mono ?_
  rintro e w1 ⟨rfl, hw1⟩
  have hw1 := hw1.symm
  subst hw1
  have HB := Lib.hid hB0
  go_wp2
  go_ret
  exact ⟨rfl, HB.out⟩

theorem below_box {w wb W : World} {v : Array Value} (hw : w.alloc (.cells v 24) = wb) (hB : Below wb.heap.size wb W) : Below w.heap.size w W ∧ At W w.heap.size 24 v ∧ w.heap.size + 1 ≤ W.heap.size := by
  subst hw
  have hz := hB.size
  have hA := At.new w 24 v
  exact ⟨((Below.refl _ _).alloc (Nat.le_refl _) _).trans (hB.mono (by simp)), hA.same (hB.block _ hA.lt), by simpa using hz⟩

set_option maxHeartbeats 8000000 in
set_option maxRecDepth 100000 in
theorem refApply_is (F : Nat → Prop) (A : Option Addr) (n c : Nat) (L : List ByteArray) (a d : Int) (B : Option Addr) (m c' : Nat) (ins : List ByteArray) (w : World) (k : Int) (hk : appK L a d ins = k) (hL : Lst w F A n c L) (hn : n ≤ 100000) (ha1 : -9223372036854775808 ≤ a) (ha2 : a ≤ 9223372036854775807) (hd1 : -9223372036854775808 ≤ d) (hd2 : d ≤ 9223372036854775807)
    (hI : Lst w F B m c' ins) (hm : m ≤ 10000) (hzL : ∀ z ∈ L, z.size ≤ maxLen) (hzI : ∀ z ∈ ins, z.size ≤ maxLen) :
    Calls Tryd.prog 13 #[.slice A n c, .agg #[.int .i64 a, .int .i64 d, .slice B m c']] w (StepSays w L ins a d k) := by
  obtain ⟨wb, hwb⟩ : ∃ wb, w.alloc (.cells #[.int .i64 a, .int .i64 d, .slice B m c'] 24) = wb := ⟨_, rfl⟩
  have HX := Lib.hid (fun (W : World) (hB : Below wb.heap.size wb W) => below_box hwb hB)
  obtain ⟨q, hq⟩ : ∃ q, chk L = q := ⟨_, rfl⟩
  obtain ⟨r, hr⟩ : ∃ r, chkS a d ins = r := ⟨_, rfl⟩
  have HQ := Lib.hid hq
  have HR := Lib.hid hr
  have HK := Lib.hid hk
  have C1 := Lib.hid (refChk A c n L wb q hq hL.len hn hzL (hL.below (HX.out wb (Below.refl _ _)).1).srd)
  have C2 := Lib.hid (refCheck_is a d B m c' ins wb r hr ha1 ha2 hd1 hd2 hI.len (by omega) hzI (hI.below (HX.out wb (Below.refl _ _)).1).srd)
  have HL := Lib.hid hL
  have HI := Lib.hid hI
  clear hL hI hzL hzI hk
  by_cases hq0 : q = 0
  case neg =>
    have hqb : (q == 0) = false := by simpa using hq0
    have hqn : (q != 0) = true := by rw [bne, hqb]; rfl
    obtain rfl : k = q := by rw [← HK.out]; unfold appK; rw [HQ.out, if_pos hq0]
    have HQ0 := Lib.hid hq0
    clear hq0 hq hr
    go_enter Tryd.func13, Tryd.ntmps13
    go_wp2_with fail
    go_at_call 32
    refine C1.out.mono ?_
    rintro e w1 ⟨rfl, hw1⟩
    have hw1 := hw1.symm
    subst hw1
    have HB := Lib.hid (HX.out w1 (Below.refl _ _))
    clear HX C1 C2 hwb
    go_wp2
    go_ret2
    exact .inl ⟨HQ0.out, rfl, HB.out.1⟩
  case pos =>
  subst hq0
  have HF : Hid (Fine L) := Lib.hid (fine_chk.1 hq)
  have hn2 : n ≤ 2000 := by rw [HL.out.len]; exact HF.out.1
  have hS : stpE L.length a d ins = k := by rw [← HK.out, appK_fine HF.out]
  by_cases hr0 : r = 0
  case neg =>
    have hqb : (r == 0) = false := by simpa using hr0
    have hqn : (r != 0) = true := by rw [bne, hqb]; rfl
    obtain rfl : k = r := by rw [← hS]; unfold stpE; rw [hr, if_pos hr0]
    have HQ0 := Lib.hid hr0
    clear hr0 hq hr hS
    go_enter Tryd.func13, Tryd.ntmps13
    go_wp2_with fail
    go_at_call 32
    refine C1.out.mono ?_
    rintro e w1 ⟨rfl, hw1⟩
    have hw1 := hw1.symm
    subst hw1
    have HB := Lib.hid (HX.out w1 (Below.refl _ _))
    obtain ⟨d0, d1, d2⟩ := three_at HB.out.2.1
    clear C1 hwb
    go_wp2_with fail
    go_at_call 19
    refine C2.out.mono ?_
    rintro e w2 ⟨rfl, hB2⟩
    have HB2 := Lib.hid (HX.out w2 hB2)
    clear HX C2 hB2 d0 d1 d2
    go_wp2
    go_ret2
    exact .inl ⟨HQ0.out, rfl, HB2.out.1⟩
  case pos =>
  subst hr0
  obtain ⟨g1, g2, hfi⟩ := chkS_zero.1 hr
  obtain ⟨x, rfl⟩ : ∃ x : Nat, a = x := ⟨a.toNat, by omega⟩
  obtain ⟨y, rfl⟩ : ∃ y : Nat, d = y := ⟨d.toNat, by omega⟩
  have hS2 : (if (n : Int) - x < y then (2 : Int) else if 2000 < (n : Int) - y + m then 3 else 0) = k := by
    have h := hS
    unfold stpE at h
    rw [hr, if_neg (by simp), ← HL.out.len, ← HI.out.len] at h
    exact h
  clear hq hr hS g1 g2 hd1 ha1
  by_cases hbad : n < x + y
  · obtain rfl : k = 2 := by rw [if_pos (by omega)] at hS2; exact hS2.symm
    have HBD : Hid (¬ (2 : Int) = 0) := Lib.hid (by decide)
    clear hS2
    by_cases hx : (x : Int) > n
    all_goals
      first | (have h5 : (y : Int) > (n : Int) - x := by omega) | skip
      go_enter Tryd.func13, Tryd.ntmps13
      go_wp2_with fail
      go_at_call 32
      refine C1.out.mono ?_
      rintro e w1 ⟨rfl, hw1⟩
      have hw1 := hw1.symm
      subst hw1
      have HB := Lib.hid (HX.out w1 (Below.refl _ _))
      obtain ⟨d0, d1, d2⟩ := three_at HB.out.2.1
      clear C1 hwb
      go_wp2_with fail
      go_at_call 19
      refine C2.out.mono ?_
      rintro e w2 ⟨rfl, hB2⟩
      have HB2 := Lib.hid (HX.out w2 hB2)
      obtain ⟨d0, d1, d2⟩ := three_at HB2.out.2.1
      clear HX C2 hB2
      go_wp2
      go_ret2
      exact .inl ⟨HBD.out, rfl, HB2.out.1⟩
  have hle : x + y ≤ n := by omega
  rw [if_neg (by omega)] at hS2
  have hx : ¬ n < x := by omega
  have e0 : (n : Int) - x = ((n - x : Nat) : Int) := by omega
  have h5 : ¬ n - x < y := by omega
  have h6 : (x : Int) + y = ((x + y : Nat) : Int) := by omega
  have hw : IntKind.i64.wrap ((x : Int) + y) = (x : Int) + y := by rw [IntKind.wrap_i64]; omega
  have S1 := fun W => head_slice A n c x (by have := HL.out.room; omega) W
  have S2 := fun W => tail_slice A n c (x + y) (n - (x + y)) (by omega) W
  have S3 : ∀ W, (Instr.slice 22 (.slice A n c) (some (.int .i64 ((x : Int) + y))) none none).run Tryd.prog W = .ok (.slice (tailA A c (x + y)) (n - (x + y)) (c - (x + y))) W := fun W => by rw [h6]; exact S2 W
  have HS2 := Lib.hid hS2
  clear hS2 h6 hbad
  have key : ∀ (b : Bool), decide (2000 < n - y + m) = b → Calls Tryd.prog 13 #[.slice A n c, .agg #[.int .i64 x, .int .i64 y, .slice B m c']] w (StepSays w L ins x y k) := by
    intro b hb
    cases b
    all_goals
      have HT := Lib.hid hb
      first
        | (have hbi : 2000 < x + m + (n - (x + y)) := by
             have := of_decide_eq_true hb
             omega)
        | (have hbi : ¬ 2000 < x + m + (n - (x + y)) := by
             have := of_decide_eq_false hb
             omega)
      clear hb
      go_enter Tryd.func13, Tryd.ntmps13
      go_wp2_with fail
      go_at_call 32
      refine C1.out.mono ?_
      rintro e w1 ⟨rfl, hw1⟩
      have hw1 := hw1.symm
      subst hw1
      have HB := Lib.hid (HX.out w1 (Below.refl _ _))
      obtain ⟨d0, d1, d2⟩ := three_at HB.out.2.1
      clear C1 hwb
      go_wp2_with fail
      go_at_call 19
      refine C2.out.mono ?_
      rintro e w2 ⟨rfl, hB2⟩
      have HB2 := Lib.hid hB2
      have hz2 := hB2.size
      obtain ⟨d0, d1, d2⟩ := three_at (HX.out w2 hB2).2.1
      have hL0 := World.ownsRow_lit (base := w1.heap.size) (e := 9) (size := 1) w2 #[] 0 hz2 (Nat.zero_le _) rfl
      have HO0 := Lib.hid hL0
      have L2 := Lib.hid (HL.out.below (HX.out w2 hB2).1)
      have hlt2 : w.heap.size < w2.heap.size := by have := (HX.out w2 hB2).2.2; omega
      clear C2 hB2 hL0
      go_wp2_with (first
        | (at_builtin; refine wpList_append_list rfl (.tmp 33) (.tmp 37) rfl w1.heap.size _ 0 [] rfl HO0.out A x c _ (L.take x) rfl (by rw [List.length_take, ← HL.out.len]; omega) HL.out.nil (srd_head (L2.out.srd.alloc (Nat.le_refl _) _) x) (by omega) (by simp; omega) ?_; intro v3 w3 hown3 hgrow3; obtain ⟨A3, c3, rfl⟩ := own_form hown3; have HB3 := Lib.hid ((HB2.out.alloc hz2 (.cells #[] 9)).grown hgrow3 (by simp; omega) (fun j hj => (HO0.out.lt j hj).1)); obtain ⟨d0, d1, d2⟩ := three_at (HX.out w3 HB3.out).2.1; rw [Nat.zero_add] at hown3; have HO3 := Lib.hid hown3; have I3 := Lib.hid (HI.out.below (HX.out w3 HB3.out).1); clear hown3 hgrow3)
        | (at_builtin; refine wpList_append_list rfl (.tmp 39) (.tmp 41) rfl w1.heap.size _ x _ rfl HO3.out B m c' _ ins rfl HI.out.len HI.out.nil I3.out.srd (by omega) HB3.out.size ?_; intro v4 w4 hown4 hgrow4; obtain ⟨A4, c4, rfl⟩ := own_form hown4; have HB4 := Lib.hid (HB3.out.grown hgrow4 HB3.out.size (fun j hj => (HO3.out.lt j hj).1)); obtain ⟨d0, d1, d2⟩ := three_at (HX.out w4 HB4.out).2.1; have HO4 := Lib.hid hown4; have L4 := Lib.hid (HL.out.below (HX.out w4 HB4.out).1); clear hown4 hgrow4)
        | (at_builtin; refine wpList_append_list rfl (.tmp 43) (.tmp 50) rfl w1.heap.size _ (x + m) _ rfl HO4.out (tailA A c (x + y)) (n - (x + y)) (c - (x + y)) _ (L.drop (x + y)) rfl (by rw [List.length_drop, ← HL.out.len]) (tail_nil HL.out.nil) (srd_tail L4.out.srd (x + y) (by rw [← HL.out.len]; exact HL.out.room)) (by omega) HB4.out.size ?_; intro v5 w5 hown5 hgrow5; obtain ⟨A5, c5, rfl⟩ := own_form hown5; have HB5 := Lib.hid (HB4.out.grown hgrow5 HB4.out.size (fun j hj => (HO4.out.lt j hj).1)); have HO5 := Lib.hid hown5; clear hown5 hgrow5))
      go_ret2
    · obtain rfl : k = 0 := by rw [← HS2.out, if_neg (by have := of_decide_eq_false HT.out; omega)]
      have hX := HX.out w5 HB5.out
      have e : [] ++ List.map Value.string (L.take x) ++ List.map Value.string ins ++ List.map Value.string (L.drop (x + y)) = (pce.spl L x y ins).map Value.string := by simp [pce.spl]
      have ho := HO5.out
      rw [e] at ho
      have hl : (pce.spl L x y ins).length = x + m + (n - (x + y)) := by rw [spl_len (by rw [← HL.out.len]; exact hle), ← HL.out.len, ← HI.out.len]; omega
      refine .inr ⟨rfl, _, rfl, A5, _, c5, rfl, by rw [Int.toNat_natCast, Int.toNat_natCast, hl], ?_, hX.1⟩
      rw [Int.toNat_natCast, Int.toNat_natCast]
      exact row_lift ho (by have := (HX.out w1 (Below.refl _ _)).2.2; omega)
    · obtain rfl : k = 3 := by rw [← HS2.out, if_pos (by have := of_decide_eq_true HT.out; omega)]
      exact .inl ⟨by decide, rfl, (HX.out w5 HB5.out).1⟩
  exact key _ rfl
end Go.Proofs.YtakckmelojobkaaDoor.sps
