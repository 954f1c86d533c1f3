/- SplicesAll, walked. -/
import Derived.Test.YtakckmelojobkaaDoorSplDoes
import Derived.Test.YtakckmelojobkaaDoorSplRefAll
namespace Go.Proofs.YtakckmelojobkaaDoor.sps
open Go.RowKit Go.Lib pce
set_option linter.unusedVariables false
set_option linter.unusedSimpArgs false
set_option linter.unnecessarySimpa false
set_option linter.unusedSectionVars false

/-- What is told beside an error: nothing; else the lines. -/
def resL (L : List ByteArray) (k : Int) : List ByteArray := if k = 0 then L else []
theorem AllSays.res {base : Nat} {w w' : World} {L : List ByteArray} {k : Int} {e : Ending} (h : AllSays base w L k e w') : ∃ B n c, e = .returned (.tuple #[.slice B n c, .int .i64 k]) ∧ n = (resL L k).length ∧ w'.ownsRow base 9 1 (.slice B n c) n ((resL L k).map Value.string) ∧ Below w.heap.size w w' := by
  rcases h with ⟨hB, ⟨h0, rfl⟩ | ⟨rfl, B, n, c, rfl, hn, ho⟩⟩
  · refine ⟨none, 0, 0, rfl, ?_, ?_, hB⟩
    · unfold resL; rw [if_neg h0]; rfl
    · unfold resL; rw [if_neg h0]; exact World.ownsRow_nil _ _ _ _
  · exact ⟨B, n, c, rfl, hn, ho, hB⟩
theorem StepSays.res {w w' : World} {L ins : List ByteArray} {a d k : Int} {e : Ending} (h : StepSays w L ins a d k e w') : ∃ B n c, e = .returned (.tuple #[.slice B n c, .int .i64 k]) ∧ n = (resL (pce.spl L a.toNat d.toNat ins) k).length ∧ w'.ownsRow w.heap.size 9 1 (.slice B n c) n ((resL (pce.spl L a.toNat d.toNat ins) k).map Value.string) ∧ Below w.heap.size w w' := by
  rcases h with ⟨h0, rfl, hB⟩ | ⟨rfl, v, rfl, B, n, c, rfl, hn, ho, hB⟩
  · refine ⟨none, 0, 0, rfl, ?_, ?_, hB⟩
    · unfold resL; rw [if_neg h0]; rfl
    · unfold resL; rw [if_neg h0]; exact World.ownsRow_nil _ _ _ _
  · exact ⟨B, n, c, rfl, hn, ho, hB⟩
/-- Which block is written when a row of one's own is. -/
theorem own_where {w : World} {base n c : Nat} {B : Option Addr} {us : List Value} (h : w.ownsRow base 9 1 (.slice B n c) n us) : ∃ G, base ≤ G ∧ (∀ ad, B = some ad → ad.block = G) := by
  cases B with
  | none => exact ⟨base, Nat.le_refl _, fun _ e => by cases e⟩
  | some ad => exact ⟨ad.block, (h.lt ad.block rfl).1, fun _ e => by injection e with e; rw [e]⟩
theorem own_but {w w' : World} {base n e G : Nat} {v : Value} {xs : List Value} (h : w.ownsRow base e 1 v n xs) (hB : But G w w') (hG : ∀ b, v.ownBlock = some b → b ≠ G) : w'.ownsRow base e 1 v n xs :=
  own_same h fun b hb => hB.block b (h.lt b hb).2 (hG b hb)
theorem Cuts.any' {w : World} {F : Nat → Prop} {A : Option Addr} {ts : List Ct} (h : Cuts w F A ts) : Cuts w (fun _ => True) A ts := ⟨h.row.mono fun _ _ _ => trivial, fun t ht => ⟨(h.each t ht).a1, (h.each t ht).a2, (h.each t ht).d1, (h.each t ht).d2, (h.each t ht).lst.any, (h.each t ht).size, (h.each t ht).few⟩⟩
theorem run_len {L : List ByteArray} {ts : List Ct} (hf : Fine L) (h : runE L ts = 0) : (runL L ts).length ≤ 2000 := (run_fine hf h).1
theorem resL_all {L : List ByteArray} {ts : List Ct} : (resL (runL L ts) (allK L ts)).length ≤ 2000 := by
  unfold resL
  split
  · rename_i h
    obtain ⟨h1, h2⟩ := allK_zero.1 h
    exact run_len h1 h2
  · simp

set_option maxHeartbeats 4000000 in
set_option maxRecDepth 100000 in
theorem law4 (A : Option Addr) (n c : Nat) (zs : List ByteArray) (Bo : Option Addr) (m c' : Nat) (ts : List Ct) (w : World) (h : InL w A n c zs) (hm : m = ts.length) (hmb : m ≤ maxLen) (hC : Cuts w (· < w.heap.size) Bo ts) (hV : VarT w.heap.size w) :
    Calls Tryd.prog 4 #[.slice A n c, .slice Bo m c'] w fun e w' => e = .returned (.bool true) ∧ Below w.heap.size w w' := by
  have C1 := Lib.hid (great_in h 2100 20000 (by omega) (by omega))
  have C2 := Lib.hid (much_is w _ Bo m c' ts 40 (by omega) hm hmb hC)
  have HI := Lib.hid h
  have HM := Lib.hid hm
  have HC := Lib.hid hC
  have HV := Lib.hid hV
  clear h hm hmb hC hV
  go_enter Tryd.func4, Tryd.ntmps4
  go_wp2_with fail
  go_at_call 9
  refine C1.out.mono ?_
  rintro e w' ⟨(rfl | ⟨rfl, g1, g2⟩), rfl⟩
  · go_wp2
    go_ret
    exact ⟨rfl, Below.refl _ _⟩
  have hn3 : n ≤ 2100 := by rw [HI.out.lst.len]; exact g1
  clear C1 g1 g2
  go_wp2_with fail
  go_at_call 10
  refine C2.out.mono ?_
  rintro e w' ⟨(rfl | ⟨rfl, g1, g2⟩), rfl⟩
  · go_wp2
    go_ret
    exact ⟨rfl, Below.refl _ _⟩
  have hm6 : m ≤ 40 := by rw [HM.out]; exact g1
  have HF := Lib.hid (fun t ht => Nat.le_trans (g2 t ht).1 (by omega : 2100 ≤ 10000))
  clear C2 g1 g2
  go_wp2_with fail
  go_at_call 11
  refine (twin15 A c n zs w HI.out.lst.len HI.out.lst.nil (by omega) HI.out.lst.srd).mono ?_
  rintro e w1 ⟨v, rfl, ht⟩
  obtain ⟨g, cap, rfl, ho, hB1⟩ := ht
  have hz1 := hB1.size
  have HG := Lib.hid (ho.lt g rfl)
  have HT := Lib.hid (twin_lst ho)
  have HO1 := Lib.hid ho
  have HB1 := Lib.hid hB1
  rw [← HI.out.lst.len] at HT HO1
  rw [← HI.out.lst.len]
  clear ho hB1
  obtain ⟨k, hk⟩ : ∃ k, allK zs ts = k := ⟨_, rfl⟩
  have HK := Lib.hid hk
  clear hk
  go_wp2_with fail
  go_at_call 22
  refine (all_is (fun _ => True) (some ⟨g, 0, none⟩) n cap zs Bo m c' ts w1 k HK.out HT.out (by omega) (Cuts.any' (HC.out.below HB1.out)) HM.out (by omega) HF.out).mono ?_
  rintro e w2 hE
  obtain ⟨B2, n2, c2, rfl, hn2, ho2, hB2⟩ := hE.res
  have hz2 := hB2.size
  have HN2 := Lib.hid hn2
  have HO2 := Lib.hid ho2
  have HB2 := Lib.hid (HB1.out.trans (hB2.mono hz1))
  have P2 := Lib.hid (own_keep HO1.out hB2)
  have HL2 : Hid ((resL (runL zs ts) k).length ≤ 2000) := Lib.hid (by rw [← HK.out]; exact resL_all)
  have hn2b : n2 ≤ 2000 := by rw [hn2]; exact HL2.out
  clear hE hn2 ho2 hB2 HO1 HT HB1
  go_wp2_with fail
  go_at_call 23
  refine (refAll_is (· < w.heap.size) A n c zs Bo m c' ts w2 k HK.out (HI.out.lst.below HB2.out) (by omega) HI.out.size (HC.out.below HB2.out) HM.out (by omega) HF.out).mono ?_
  rintro e w3 hE
  obtain ⟨B3, n3, c3, rfl, hn3', ho3, hB3⟩ := hE.res
  have hz3 := hB3.size
  have L3 := Lib.hid (lst_own hn3' ho3)
  have HB3 := Lib.hid (HB2.out.trans (hB3.mono (by omega)))
  have P3 := Lib.hid (own_keep P2.out hB3)
  have HO3 := Lib.hid (own_keep HO2.out hB3)
  have hn3b : n3 ≤ 2000 := by rw [hn3']; exact HL2.out
  clear hE hn3' ho3 hB3 HB2 P2 HO2
  have hkk : (k == k) = true := by simp
  have hkn : (k != k) = false := by simp
  go_wp2_with fail
  go_at_call 16
  refine (same12_b B2 B3 c2 c3 n2 n3 _ _ w3 true HN2.out L3.out.len (by omega) (by omega) (by simp) (lst_own HN2.out HO3.out).srd L3.out.srd).mono ?_
  rintro e w4 ⟨rfl, hB4⟩
  have hz4 := hB4.size
  have HB4 := Lib.hid (HB3.out.trans (hB4.mono (by omega)))
  have P4 := Lib.hid (own_keep P3.out hB4)
  have HO4 := own_keep HO3.out hB4
  obtain ⟨G, hG1, hG2⟩ := own_where HO4
  have HG1 := Lib.hid hG1
  have HG2 := Lib.hid hG2
  clear hB4 HB3 P3 HO3 L3 hG1 hG2
  go_wp2_with fail
  go_loopg [10] n2 (fun gg s10 wr => ∃ (j : Nat) (us : List Value), j ≤ n2 ∧ n2 - j ≤ gg ∧ s10 = .int .i64 j ∧ wr.ownsRow w1.heap.size 9 1 (.slice B2 n2 c2) n2 us ∧ But G w4 wr)
  case atStart => exact ⟨0, _, Nat.zero_le _, by omega, rfl, HO4, But.refl _ _⟩
  case round =>
    obtain ⟨j, us, hj, hg, rfl, ho1, hBr⟩ := hrel
    clear HO4
    by_cases hjl : j < n2
    · obtain ⟨gb, capb, hv, _, _⟩ := ho1.form (by omega)
      injection hv with hv1 hv2 hv3
      subst hv1
      obtain rfl : gb = G := HG2.out _ rfl
      have hcp := (own_cap ho1).1
      have hus : j < us.length := by rw [ho1.1]; omega
      have hcell := ho1.cellAt j (by omega)
      rw [List.getElem?_eq_getElem hus] at hcell
      have hfr := ho1.frozenAt j
      have hst := Lib.hid (ho1.stored j (.string ⟨#[63]⟩)).1
      have hB' := Lib.hid (hBr.setCell j (.string ⟨#[63]⟩))
      clear ho1 hBr hv2 hv3
      go_wp2
      go_roundg (n2 - (j + 1))
      case measure => omega
      case rel => exact ⟨j + 1, _, by omega, by omega, by go_num, hst.out, hB'.out⟩
    · have hjn : j = n2 := by omega
      subst hjn
      have hzr := hBr.size
      have PL := Lib.hid (own_but P4.out hBr (fun b hb => by
        have h1 := HG.out.2
        have h2 := HG1.out
        have : g = b := by simpa [Value.ownBlock] using hb
        omega))
      have LL := Lib.hid ((HI.out.lst.below HB4.out).but hBr (fun b hb _ => by have := HG1.out; omega))
      have BL := Lib.hid (HB4.out.trans (hBr.below (by omega) (by have := HG1.out; omega)))
      clear ho1 hBr
      go_wp2_with fail
      go_at_call 20
      refine (left20 A c g cap n _ zs wr HI.out.lst.len (by omega) PL.out LL.out.srd).mono ?_
      rintro e w5 ⟨rfl, hB5⟩
      have HB5 := Lib.hid (BL.out.trans (hB5.mono (by omega)))
      clear hB5 BL PL LL
      go_wp2_with fail
      go_at_call 21
      refine (does_is w5 ((HV.out.below HB5.out).more HB5.out.size)).mono ?_
      rintro e w6 ⟨rfl, hB6⟩
      have HB6 := Lib.hid (HB5.out.trans (hB6.mono HB5.out.size))
      clear hB6 HB5
      go_wp2
      go_ret
      exact ⟨rfl, HB6.out⟩
end Go.Proofs.YtakckmelojobkaaDoor.sps
