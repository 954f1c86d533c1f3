/- Splices: the document's All. -/
import Derived.Test.YtakckmelojobkaaDoorSplAll
import Derived.Test.YtakckmelojobkaaDoorSplRef
namespace Go.Proofs.YtakckmelojobkaaDoor.sps
open Go.RowKit Go.Lib pce
set_option linter.unusedVariables false
set_option linter.unusedSimpArgs false
set_option linter.unnecessarySimpa false
set_option linter.unusedSectionVars false

theorem fine_max {L : List ByteArray} (h : Fine L) : ∀ z ∈ L, z.size ≤ maxLen := fun z hz => by
  have := h.size z hz
  unfold maxLen; omega
set_option maxHeartbeats 4000000 in
set_option maxRecDepth 100000 in
theorem refAll_is (F : Nat → Prop) (A : Option Addr) (n c : Nat) (L : List ByteArray) (Bo : Option Addr) (m c' : Nat) (ts : List Ct) (w : World) (k : Int) (hk : allK L ts = k) (hL : Lst w F A n c L) (hn : n ≤ 100000) (hzL : ∀ z ∈ L, z.size ≤ maxLen)
    (hC : Cuts w F Bo ts) (hm : m = ts.length) (hmb : m ≤ 100000) (hfew : ∀ t ∈ ts, t.ins.length ≤ 10000) :
    Calls Tryd.prog 23 #[.slice A n c, .slice Bo m c'] w (AllSays w.heap.size w (runL L ts) k) := by
  obtain ⟨q, hq⟩ : ∃ q, chk L = q := ⟨_, rfl⟩
  have C := Lib.hid (refChk A c n L w q hq hL.len hn hzL hL.srd)
  have HL := Lib.hid hL
  have HC := Lib.hid hC
  have HM := Lib.hid hm
  have HW := Lib.hid hfew
  have HQ := Lib.hid hq
  unfold allK at hk
  rw [hq] at hk
  clear hL hC hm hfew hq hzL
  by_cases hq0 : q = 0
  · subst hq0
    rw [if_neg (by simp)] at hk
    have HK := Lib.hid hk
    have HF : Hid (Fine L) := Lib.hid (fine_chk.1 HQ.out)
    have hL0 := World.ownsRow_lit (base := w.heap.size) (e := 9) (size := 1) w #[] 0 (Nat.le_refl _) (Nat.zero_le _) rfl
    have HO0 := Lib.hid hL0
    clear hk hL0
    go_enter Tryd.func23, Tryd.ntmps23
    go_wp2_with fail
    go_at_call 32
    refine C.out.mono ?_
    rintro e w1 ⟨rfl, hw1⟩
    subst hw1
    clear C
    go_wp2_with (at_builtin; refine wpList_append_list rfl (.tmp 14) (.tmp 15) rfl w.heap.size _ 0 [] rfl HO0.out A n c _ L rfl HL.out.len HL.out.nil (HL.out.srd.alloc (Nat.le_refl _) _) (by omega) (by simp) ?_; intro v2 w2 hown2 hgrow2; obtain ⟨A2, c2, rfl⟩ := own_form hown2; have HB2 := Lib.hid (((Below.refl w.heap.size w).alloc (Nat.le_refl _) (.cells #[] 9)).grown hgrow2 (by simp) (fun j hj => (HO0.out.lt j hj).1)); rw [Nat.zero_add] at hown2; have HO2 := Lib.hid hown2; clear hown2 hgrow2)
    go_loopg [7, 8] m (fun g s7 s8 wr => ∃ (k : Nat) (Aw : Option Addr) (nw cw : Nat), k ≤ m ∧ m - k ≤ g ∧ s8 = .int .i64 k ∧ s7 = .slice Aw nw cw ∧ Hid (runE L (ts.take k) = 0 ∧ nw = (runL L (ts.take k)).length ∧ wr.ownsRow w.heap.size 9 1 (.slice Aw nw cw) nw ((runL L (ts.take k)).map Value.string) ∧ Below w.heap.size w wr))
    case atStart => exact ⟨0, A2, _, c2, Nat.zero_le _, by omega, rfl, rfl, ⟨rfl, HL.out.len, by simpa [runL] using HO2.out, HB2.out⟩⟩
    case round =>
      obtain ⟨k', Aw, nw, cw, hk', hg, rfl, rfl, HR⟩ := hrel
      by_cases hlt : k' < m
      · obtain ⟨t, ht⟩ : ∃ t, ts[k']? = some t := ⟨_, List.getElem?_eq_getElem (by rw [← HM.out]; exact hlt)⟩
        have HT := Lib.hid ht
        have hB := HR.out.2.2.2
        have hz := hB.size
        have HC2 := Lib.hid (HC.out.below hB)
        have HOK := Lib.hid (HC2.out.each t (List.mem_of_getElem? ht))
        obtain ⟨b, off, rfl, g0, g1, g2⟩ := HC2.out.at ht
        have HFN := Lib.hid (run_fine HF.out HR.out.1)
        have hnw : nw ≤ 2000 := by rw [HR.out.2.1]; exact HFN.out.1
        have HB := Lib.hid hB
        have KS := Lib.hid (refApply_is (fun _ => True) Aw nw cw (runL L (ts.take k')) t.a t.d t.A t.ins.length t.c t.ins wr (stp (runL L (ts.take k')) t) (appK_fine HFN.out) (lst_own HR.out.2.1 HR.out.2.2.1).any (by omega) HOK.out.a1 HOK.out.a2 HOK.out.d1 HOK.out.d2 HOK.out.lst.any (HW.out t (List.mem_of_getElem? ht)) (fine_max HFN.out) HOK.out.size)
        clear ht hB
        go_wp2_with fail
        go_at_call 13
        obtain ⟨z, hz2⟩ : ∃ z, stp (runL L (ts.take k')) t = z := ⟨_, rfl⟩
        have HZ := Lib.hid hz2
        rw [hz2] at KS
        clear hz2
        by_cases h0 : z = 0
        · subst h0
          refine KS.out.mono ?_
          rintro e w2 hE
          obtain ⟨B2, n2, c2, rfl, _, _, _, hv2, hn2, ho2, hB2⟩ := hE.yes
          injection hv2 with e1 e2 e3
          subst e1 e2 e3
          have HB2 := Lib.hid (HB.out.trans (hB2.mono hz))
          have NX := Lib.hid ((run_next HT.out HR.out.1).2 HZ.out)
          have HR2 : Hid (runE L (ts.take (k' + 1)) = 0 ∧ n2 = (runL L (ts.take (k' + 1))).length ∧ w2.ownsRow w.heap.size 9 1 (.slice B2 n2 c2) n2 ((runL L (ts.take (k' + 1))).map Value.string) ∧ Below w.heap.size w w2) := Lib.hid (by
            rw [NX.out.2]
            exact ⟨NX.out.1, hn2, row_lift ho2 hz, HB2.out⟩)
          clear hn2 ho2 hB2 hE KS g0 g1 g2
          go_wp2
          go_roundg (m - (k' + 1))
          case measure => omega
          case rel => exact ⟨k' + 1, B2, n2, c2, by omega, by omega, by go_num, rfl, HR2⟩
        · have hqb : (z == 0) = false := by simpa using h0
          have hqn : (z != 0) = true := by rw [bne, hqb]; rfl
          have HE : Hid (runE L ts = z ∧ ¬ z = 0) := Lib.hid ⟨by rw [(run_next HT.out HR.out.1).1 (by rw [HZ.out]; exact h0), HZ.out], h0⟩
          clear h0
          refine KS.out.mono ?_
          rintro e w2 hE
          obtain ⟨rfl, hB2⟩ := hE.err HE.out.2
          have HB2 := Lib.hid (HB.out.trans (hB2.mono hz))
          clear hB2 hE KS g0 g1 g2
          go_wp2
          go_ret2
          refine ⟨HB2.out, .inl ⟨?_, ?_⟩⟩
          · rw [← HK.out, HE.out.1]; exact HE.out.2
          · have e1 := HK.out.symm.trans HE.out.1
            exact congrArg (fun q : Int => Ending.returned (.tuple #[.slice none 0 0, .int .i64 q])) e1.symm
      · have hkm : k' = m := by omega
        subst hkm
        have HD : Hid (runE L ts = 0 ∧ nw = (runL L ts).length ∧ wr.ownsRow w.heap.size 9 1 (.slice Aw nw cw) nw ((runL L ts).map Value.string) ∧ Below w.heap.size w wr) := Lib.hid (by
          have := HR.out
          rw [HM.out, List.take_length] at this
          exact this)
        go_wp2
        go_ret2
        refine ⟨HD.out.2.2.2, .inr ⟨HK.out.symm.trans HD.out.1, Aw, nw, cw, rfl, HD.out.2.1, HD.out.2.2.1⟩⟩
  · obtain rfl : k = q := by rw [if_pos hq0] at hk; exact hk.symm
    have hqb : (k == 0) = false := by simpa using hq0
    have hqn : (k != 0) = true := by rw [bne, hqb]; rfl
    have HQ0 := Lib.hid hq0
    clear hk hq0
    go_enter Tryd.func23, Tryd.ntmps23
    go_wp2_with fail
    go_at_call 32
    refine C.out.mono ?_
    rintro e w1 ⟨rfl, hw1⟩
    subst hw1
    clear C
    go_wp2
    go_ret2
    exact ⟨Below.refl _ _, .inl ⟨HQ0.out, rfl⟩⟩
end Go.Proofs.YtakckmelojobkaaDoor.sps
