/- Splices: fold, All, of the program. -/
import Derived.Test.YtdbeedhedjhamaaSplInv
namespace Go.Proofs.Ytdbeedhedjhamaa.sps
open Go.RowKit Go.Lib pce
set_option linter.unusedVariables false
set_option linter.unusedSimpArgs false
set_option linter.unnecessarySimpa false
set_option linter.unusedSectionVars false

/-- What splices, one behind the other, come to: an error; or the lines, in a row of their own. -/
def AllSays (base : Nat) (w : World) (L : List ByteArray) (k : Int) (e : Ending) (w' : World) : Prop := Below w.heap.size w w' ∧
  ((¬ k = 0 ∧ e = .returned (.tuple #[.slice none 0 0, .int .i64 k])) ∨ (k = 0 ∧ ∃ B n c, e = .returned (.tuple #[.slice B n c, .int .i64 0]) ∧ n = L.length ∧ w'.ownsRow base 9 1 (.slice B n c) n (L.map Value.string)))
theorem lst_own {w : World} {base : Nat} {A : Option Addr} {n c : Nat} {zs : List ByteArray} (hn : n = zs.length) (h : w.ownsRow base 9 1 (.slice A n c) n (zs.map Value.string)) : Lst w (base ≤ ·) A n c zs := by
  obtain ⟨_, _, hv, hnil, hkc⟩ := own_form' h
  injection hv with e1 e2 e3
  subst e1 e3
  exact ⟨hn, hkc, hnil, VRd.of_own h⟩
/-- Where k of the splices have been done. -/
theorem run_next {L : List ByteArray} {ts : List Ct} {k : Nat} {t : Ct} (ht : ts[k]? = some t) (h : runE L (ts.take k) = 0) :
    (stp (runL L (ts.take k)) t ≠ 0 → runE L ts = stp (runL L (ts.take k)) t) ∧ (stp (runL L (ts.take k)) t = 0 → runE L (ts.take (k + 1)) = 0 ∧ runL L (ts.take (k + 1)) = nxt (runL L (ts.take k)) t) := by
  obtain ⟨hk, rfl⟩ := List.getElem?_eq_some_iff.1 ht
  have e : ts.take (k + 1) = ts.take k ++ [ts[k]] := List.take_succ_eq_append_getElem hk
  refine ⟨fun h1 => ?_, fun h1 => ?_⟩
  · have e2 : ts = ts.take k ++ (ts[k] :: ts.drop (k + 1)) := by
      conv => lhs; rw [← List.take_append_drop k ts, List.drop_eq_getElem_cons hk]
    conv => lhs; rw [e2]
    rw [runE_append, if_neg (by simp [h]), runE_cons, if_pos h1]
  · rw [e, runE_append, if_neg (by simp [h]), runL_append]
    refine ⟨?_, rfl⟩
    rw [runE_cons, if_neg (by simp [h1])]; rfl
set_option maxHeartbeats 4000000 in
set_option maxRecDepth 100000 in
theorem fold_is (base : Nat) (F : Nat → Prop) (A : Option Addr) (n c : Nat) (L : List ByteArray) (Bo : Option Addr) (m c' : Nat) (ts : List Ct) (w : World) (hbase : base ≤ w.heap.size) (hown : w.ownsRow base 9 1 (.slice A n c) n (L.map Value.string)) (hn : n = L.length) (hf : Fine L)
    (hC : Cuts w F Bo ts) (hm : m = ts.length) (hmb : m ≤ 100000) (hfew : ∀ t ∈ ts, t.ins.length ≤ 10000) :
    Calls Try.prog 42 #[.slice A n c, .slice Bo m c', .func (.func 43) #[] #[]] w (AllSays base w (runL L ts) (runE L ts)) := by
  have HO := Lib.hid hown
  have HN := Lib.hid hn
  have HM := Lib.hid hm
  have HF := Lib.hid hf
  have HC := Lib.hid hC
  have HW := Lib.hid hfew
  clear hown hn hm hf hC hfew
  go_enter Try.func42, Try.ntmps42
  go_wp2
  go_loopg [0, 15] m (fun g s0 s15 wr => ∃ (k : Nat) (Aw : Option Addr) (nw cw : Nat), k ≤ m ∧ m - k ≤ g ∧ s15 = .int .i64 k ∧ s0 = .slice Aw nw cw ∧ Hid (runE L (ts.take k) = 0 ∧ nw = (runL L (ts.take k)).length ∧ wr.ownsRow base 9 1 (.slice Aw nw cw) nw ((runL L (ts.take k)).map Value.string) ∧ Below w.heap.size w wr))
  case atStart => exact ⟨0, A, n, c, Nat.zero_le _, by omega, rfl, rfl, ⟨rfl, HN.out, HO.out, Below.refl _ _⟩⟩
  case round =>
    obtain ⟨k, Aw, nw, cw, hk, hg, rfl, rfl, HR⟩ := hrel
    by_cases hlt : k < m
    · obtain ⟨t, ht⟩ : ∃ t, ts[k]? = some t := ⟨_, List.getElem?_eq_getElem (by rw [← HM.out]; exact hlt)⟩
      have HT := Lib.hid ht
      have hB := HR.out.2.2.2
      have hz := hB.size
      have HC2 := Lib.hid (HC.out.below hB)
      have HOK := Lib.hid (HC2.out.each t (List.mem_of_getElem? ht))
      obtain ⟨b, off, rfl, g0, g1, g2⟩ := HC2.out.at ht
      have HFN := Lib.hid (run_fine HF.out HR.out.1)
      have hnw : nw ≤ 2000 := by rw [HR.out.2.1]; exact HFN.out.1
      have HB := Lib.hid hB
      have hB1 : Below wr.heap.size wr (wr.alloc (.cells #[.int .i64 t.a, .int .i64 t.d, .slice t.A t.ins.length t.c] 24)) := (Below.refl _ _).alloc (Nat.le_refl _) _
      have HB1 := Lib.hid hB1
      have KS := Lib.hid (step_is (fun _ => True) Aw nw cw (runL L (ts.take k)) t.a t.d t.A t.ins.length t.c t.ins _ (stp (runL L (ts.take k)) t) rfl ((lst_own HR.out.2.1 HR.out.2.2.1).any.below hB1) hnw HOK.out.a1 HOK.out.a2 HOK.out.d1 HOK.out.d2 (HOK.out.lst.any.below hB1) (HW.out t (List.mem_of_getElem? ht)))
      clear ht hB hB1
      go_wp2_with (refine wpList_storeL rfl (.tmp 9) (.tmp 18) rfl wr _ _ _ rfl t.a t.d t.A t.ins.length t.c rfl rfl ?_)
      go_at_call 43
      obtain ⟨z, hz2⟩ : ∃ z, stp (runL L (ts.take k)) t = z := ⟨_, rfl⟩
      have HZ := Lib.hid hz2
      rw [hz2] at KS
      clear hz2
      by_cases h0 : z = 0
      · subst h0
        refine KS.out.mono ?_
        rintro e w2 hE
        obtain ⟨B2, n2, c2, rfl, _, _, _, hv2, hn2, ho2, hB2⟩ := hE.yes
        injection hv2 with e1 e2 e3
        subst e1 e2 e3
        have HB2 := Lib.hid (HB.out.trans ((HB1.out.trans (hB2.mono (by simp))).mono hz))
        have NX := Lib.hid ((run_next HT.out HR.out.1).2 HZ.out)
        have HR2 : Hid (runE L (ts.take (k + 1)) = 0 ∧ n2 = (runL L (ts.take (k + 1))).length ∧ w2.ownsRow base 9 1 (.slice B2 n2 c2) n2 ((runL L (ts.take (k + 1))).map Value.string) ∧ Below w.heap.size w w2) := Lib.hid (by
          rw [NX.out.2]
          exact ⟨NX.out.1, hn2, row_lift ho2 (by simp; omega), HB2.out⟩)
        clear hn2 ho2 hB2 hE KS g0 g1 g2
        go_wp2
        go_roundg (m - (k + 1))
        case measure => omega
        case rel => exact ⟨k + 1, B2, n2, c2, by omega, by omega, by go_num, rfl, HR2⟩
      · have hqb : (z == 0) = false := by simpa using h0
        have hqn : (z != 0) = true := by rw [bne, hqb]; rfl
        have HE : Hid (runE L ts = z ∧ ¬ z = 0) := Lib.hid ⟨by rw [(run_next HT.out HR.out.1).1 (by rw [HZ.out]; exact h0), HZ.out], h0⟩
        clear h0
        refine KS.out.mono ?_
        rintro e w2 hE
        obtain ⟨rfl, hB2⟩ := hE.err HE.out.2
        have HB2 := Lib.hid (HB.out.trans ((HB1.out.trans (hB2.mono (by simp))).mono hz))
        clear hB2 hE KS g0 g1 g2
        go_wp2
        go_ret2
        refine ⟨HB2.out, .inl ?_⟩
        rw [HE.out.1]
        exact ⟨HE.out.2, rfl⟩
    · have hkm : k = m := by omega
      subst hkm
      have HD : Hid (runE L ts = 0 ∧ nw = (runL L ts).length ∧ wr.ownsRow base 9 1 (.slice Aw nw cw) nw ((runL L ts).map Value.string) ∧ Below w.heap.size w wr) := Lib.hid (by
        have := HR.out
        rw [HM.out, List.take_length] at this
        exact this)
      go_wp2
      go_ret2
      refine ⟨HD.out.2.2.2, .inr ⟨HD.out.1, Aw, nw, cw, rfl, HD.out.2.1, HD.out.2.2.1⟩⟩

def allK (L : List ByteArray) (ts : List Ct) : Int := if chk L ≠ 0 then chk L else runE L ts
theorem allK_zero {L : List ByteArray} {ts : List Ct} : allK L ts = 0 ↔ Fine L ∧ runE L ts = 0 := by
  unfold allK
  split
  · rename_i h
    exact ⟨fun e => absurd e h, fun e => absurd (fine_chk.2 e.1) h⟩
  · rename_i h
    rw [← fine_chk]
    refine ⟨fun e => ⟨?_, e⟩, fun e => e.2⟩
    rcases Int.decEq (chk L) 0 with h' | h'
    · exact absurd h' h
    · exact h'
theorem allK_fine {L : List ByteArray} {ts : List Ct} (h : Fine L) : allK L ts = runE L ts := by
  unfold allK; rw [fine_chk.2 h, if_neg (by simp)]
set_option maxHeartbeats 2000000 in
set_option maxRecDepth 100000 in
theorem all_is (F : Nat → Prop) (A : Option Addr) (n c : Nat) (L : List ByteArray) (Bo : Option Addr) (m c' : Nat) (ts : List Ct) (w : World) (k : Int) (hk : allK L ts = k) (hL : Lst w F A n c L) (hn : n ≤ 100000)
    (hC : Cuts w F Bo ts) (hm : m = ts.length) (hmb : m ≤ 100000) (hfew : ∀ t ∈ ts, t.ins.length ≤ 10000) :
    Calls Try.prog 26 #[.slice A n c, .slice Bo m c'] w (AllSays w.heap.size w (runL L ts) k) := by
  obtain ⟨q, hq⟩ : ∃ q, chk L = q := ⟨_, rfl⟩
  have C := Lib.hid (check18_b A c n L w q hL.len hn hq hL.srd)
  have HL := Lib.hid hL
  have HC := Lib.hid hC
  have HM := Lib.hid hm
  have HW := Lib.hid hfew
  have HQ := Lib.hid hq
  unfold allK at hk
  rw [hq] at hk
  clear hL hC hm hfew hq
  by_cases hq0 : q = 0
  · subst hq0
    rw [if_neg (by simp)] at hk
    have HK := Lib.hid hk
    have HF : Hid (Fine L) := Lib.hid (fine_chk.1 HQ.out)
    clear hk
    go_enter Try.func26, Try.ntmps26
    go_wp2_with fail
    go_at_call 41
    refine C.out.mono ?_
    rintro e w1 ⟨rfl, hB1⟩
    have HB1 := Lib.hid hB1
    have hz1 := hB1.size
    clear hB1 C
    go_wp2_with fail
    go_at_call 38
    refine (clone_is w1 A n c L HL.out.len hn HL.out.nil (HL.out.below HB1.out).srd).mono ?_
    rintro e w2 ⟨x, rfl, B2, n2, c2, rfl, hn2, ho2, hB2⟩
    have HB2 := Lib.hid (HB1.out.trans (hB2.mono hz1))
    have HO2 := Lib.hid (row_lift ho2 hz1)
    have HN2 := Lib.hid hn2
    have hz2 := HB2.out.size
    clear hn2 ho2 hB2
    go_wp2_with fail
    go_at_call 42
    refine (fold_is w.heap.size F B2 n2 c2 L Bo m c' ts w2 hz2 HO2.out HN2.out HF.out (HC.out.below HB2.out) HM.out hmb HW.out).mono ?_
    rw [HK.out]
    rintro e w3 ⟨hB3, ⟨h0, rfl⟩ | ⟨rfl, B3, n3, c3, rfl, hn3, ho3⟩⟩
    · have H3 := Lib.hid (And.intro h0 (HB2.out.trans (hB3.mono hz2)))
      clear h0 hB3
      go_wp2
      go_ret2
      exact ⟨H3.out.2, .inl ⟨H3.out.1, rfl⟩⟩
    · have H3 := Lib.hid (And.intro hn3 (And.intro ho3 (HB2.out.trans (hB3.mono hz2))))
      clear hn3 ho3 hB3
      go_wp2
      go_ret2
      exact ⟨H3.out.2.2, .inr ⟨rfl, B3, n3, c3, rfl, H3.out.1, H3.out.2.1⟩⟩
  · obtain rfl : k = q := by rw [if_pos hq0] at hk; exact hk.symm
    have hqb : (k == 0) = false := by simpa using hq0
    have hqn : (k != 0) = true := by rw [bne, hqb]; rfl
    have HQ0 := Lib.hid hq0
    clear hk hq0
    go_enter Try.func26, Try.ntmps26
    go_wp2_with fail
    go_at_call 41
    refine C.out.mono ?_
    rintro e w1 ⟨rfl, hB1⟩
    have HB := Lib.hid hB1
    clear hB1 C
    go_wp2
    go_ret2
    exact ⟨HB.out, .inl ⟨HQ0.out, rfl⟩⟩
end Go.Proofs.Ytdbeedhedjhamaa.sps
