/- SplicesParts, walked. -/
import Derived.Test.YtakckmelojobkaaDoorSplLawAll
namespace Go.Proofs.YtakckmelojobkaaDoor.sps
open Go.RowKit Go.Lib pce
set_option linter.unusedVariables false
set_option linter.unusedSimpArgs false
set_option linter.unnecessarySimpa false
set_option linter.unusedSectionVars false

theorem sizeS (W : World) : (Go.sizeOf 24).run Tryd.prog W = .ok 3 W := by kernel_rfl
theorem elemS : Tryd.prog.elem 27 = 24 := by kernel_rfl
theorem head_sliceS (A : Option Addr) (n c m : Nat) (h : m ≤ c) (W : World) :
    (Instr.slice 27 (.slice A n c) none (some (.int .i64 (m : Int))) none).run Tryd.prog W = .ok (.slice A m c) W := by
  have hu : Tryd.prog.underlying 27 = some (.slice (Tryd.prog.elem 27)) := by rw [elemS]; exact Tryd.underlying27
  rw [run_slice_h (P := Tryd.prog) W 27 A n c hu .i64 (m : Int) (by omega) (by omega), elemS, sizeS]
  simp only [Result.andThen, sliced, Int.toNat_natCast]
  cases A with
  | none => simp
  | some a => simp [add_zero_addr]
/-- Where a tail lies. -/
def tailS (A : Option Addr) (c m : Nat) : Option Addr := if c = m then A else A.map (·.add (m * 3))
theorem tail_sliceS (A : Option Addr) (n c m k : Nat) (h : n = m + k) (W : World) :
    (Instr.slice 27 (.slice A n c) (some (.int .i64 (m : Int))) none none).run Tryd.prog W = .ok (.slice (tailS A c m) k (c - m)) W := by
  have hu : Tryd.prog.underlying 27 = some (.slice (Tryd.prog.elem 27)) := by rw [elemS]; exact Tryd.underlying27
  rw [run_slice_l (P := Tryd.prog) W 27 A n c hu .i64 (m : Int) (by omega) (by omega), elemS, sizeS]
  simp only [Result.andThen, sliced, Int.toNat_natCast, tailS]
  rw [show n - m = k by omega]
theorem flat_append (a b : List Ct) : flat (a ++ b) = flat a ++ flat b := by simp [flat]
theorem flat_head (ts : List Ct) (q j : Nat) {u : Value} (h : (flat (ts.take q))[j]? = some u) : (flat ts)[j]? = some u := by
  conv => lhs; rw [← List.take_append_drop q ts, flat_append]
  rw [List.getElem?_append_left (List.getElem?_eq_some_iff.1 h).1]; exact h
theorem flat_tail (ts : List Ct) (q j : Nat) (hq : q ≤ ts.length) {u : Value} (h : (flat (ts.drop q))[j]? = some u) : (flat ts)[q * 3 + j]? = some u := by
  have hl : (flat (ts.take q)).length = q * 3 := by rw [flat_length, List.length_take]; congr 1; omega
  conv => lhs; rw [← List.take_append_drop q ts, flat_append]
  rw [List.getElem?_append_right (by omega), hl, show q * 3 + j - q * 3 = j by omega]; exact h
theorem cuts_head {w : World} {F : Nat → Prop} {A : Option Addr} {ts : List Ct} (h : Cuts w F A ts) (q : Nat) : Cuts w F A (ts.take q) := by
  refine ⟨fun hn => ?_, fun t ht => h.each t (List.mem_of_mem_take ht)⟩
  rw [flat_length, List.length_take] at hn
  obtain ⟨b, off, e, hF, hb, hc⟩ := h.row (by rw [flat_length]; omega)
  exact ⟨b, off, e, hF, hb, fun j u hj => hc j u (flat_head ts q j hj)⟩
theorem cuts_tail {w : World} {F : Nat → Prop} {A : Option Addr} {ts : List Ct} {c : Nat} (h : Cuts w F A ts) (q : Nat) (hq : q ≤ ts.length) (hc : ts.length ≤ c) : Cuts w F (tailS A c q) (ts.drop q) := by
  refine ⟨fun hn => ?_, fun t ht => h.each t (List.mem_of_mem_drop ht)⟩
  rw [flat_length, List.length_drop] at hn
  obtain ⟨b, off, rfl, hF, hb, hcell⟩ := h.row (by rw [flat_length]; omega)
  unfold tailS
  rw [if_neg (by omega)]
  refine ⟨b, off + q * 3, by simp [Addr.add], hF, hb, fun j u hj => ?_⟩
  have := hcell _ u (flat_tail ts q j hq hj)
  rw [← Nat.add_assoc] at this
  exact this
theorem parts_bad {L : List ByteArray} {ts : List Ct} {q : Nat} (h : allK L (ts.take q) ≠ 0) : allK L ts = allK L (ts.take q) := by
  unfold allK at h ⊢
  split
  · rfl
  · rename_i hc
    rw [if_neg hc] at h
    conv => lhs; rw [← List.take_append_drop q ts]
    rw [runE_append, if_pos h]
theorem parts_good {L : List ByteArray} {ts : List Ct} {q : Nat} (h : allK L (ts.take q) = 0) : allK (runL L (ts.take q)) (ts.drop q) = allK L ts ∧ runL (runL L (ts.take q)) (ts.drop q) = runL L ts := by
  obtain ⟨h1, h2⟩ := allK_zero.1 h
  refine ⟨?_, ?_⟩
  · rw [allK_fine (run_fine h1 h2), allK_fine h1]
    conv => rhs; rw [← List.take_append_drop q ts]
    rw [runE_append, if_neg (by simp [h2])]
  · rw [← runL_append, List.take_append_drop]

set_option maxHeartbeats 4000000 in
set_option maxRecDepth 100000 in
theorem law6 (A : Option Addr) (n c : Nat) (zs : List ByteArray) (Bo : Option Addr) (m c' : Nat) (ts : List Ct) (u : Nat) (w : World) (h : InL w A n c zs) (hm : m = ts.length) (hmb : m ≤ maxLen) (hC : Cuts w (· < w.heap.size) Bo ts) (hmc : m ≤ c') (hnil : Bo = none → c' = 0) (hu : u < 256) (hV : VarT w.heap.size w) :
    Calls Tryd.prog 6 #[.slice A n c, .slice Bo m c', .int .u8 u] w fun e w' => e = .returned (.bool true) ∧ Below w.heap.size w w' := by
  have C1 := Lib.hid (great_in h 500 20000 (by omega) (by omega))
  have C2 := Lib.hid (much_is w _ Bo m c' ts 40 (by omega) hm hmb hC)
  have HI := Lib.hid h
  have HM := Lib.hid hm
  have HC := Lib.hid hC
  have HV := Lib.hid hV
  clear h hm hmb hC hV hnil
  go_enter Tryd.func6, Tryd.ntmps6
  go_wp2_with fail
  go_at_call 9
  refine C1.out.mono ?_
  rintro e w' ⟨(rfl | ⟨rfl, g1, g2⟩), rfl⟩
  · go_wp2
    go_ret
    exact ⟨rfl, Below.refl _ _⟩
  have hn3 : n ≤ 500 := by rw [HI.out.lst.len]; exact g1
  clear C1 g1 g2
  go_wp2_with fail
  go_at_call 10
  refine C2.out.mono ?_
  rintro e w' ⟨(rfl | ⟨rfl, g1, g2⟩), rfl⟩
  · go_wp2
    go_ret
    exact ⟨rfl, Below.refl _ _⟩
  have hm6 : m ≤ 40 := by rw [HM.out]; exact g1
  have HF := Lib.hid (fun t ht => Nat.le_trans (g2 t ht).1 (by omega : 2100 ≤ 10000))
  clear C2 g1 g2
  obtain ⟨q, hq⟩ : ∃ q, q = u % (m + 1) := ⟨_, rfl⟩
  have hqm : q ≤ m := by have := Nat.mod_lt u (show 0 < m + 1 by omega); omega
  have hl : ((u : Int) % ((m : Int) + 1)) = (q : Int) := by
    have e : ((u % (m + 1) : Nat) : Int) = (u : Int) % ((m : Int) + 1) := by rw [Int.natCast_emod]; rfl
    rw [hq, e]
  have HSZ := Lib.hid (And.intro hqm hm6)
  clear hq
  have S1 := fun W => head_sliceS Bo m c' q (by omega) W
  have S2 := fun W => tail_sliceS Bo m c' q (m - q) (by omega) W
  obtain ⟨k, hk⟩ : ∃ k, allK zs ts = k := ⟨_, rfl⟩
  have HK := Lib.hid hk
  clear hk
  go_wp2_with fail
  go_at_call 22
  refine (all_is (· < w.heap.size) A n c zs Bo m c' ts w k HK.out HI.out.lst (by omega) HC.out HM.out (by omega) HF.out).mono ?_
  rintro e w2 hE
  obtain ⟨B2, n2, c2, rfl, hn2, ho2, hB2⟩ := hE.res
  have hz2 := hB2.size
  have L2 := Lib.hid (lst_own hn2 ho2)
  have HB2 := Lib.hid hB2
  have HL2 : Hid ((resL (runL zs ts) k).length ≤ 2000) := Lib.hid (by rw [← HK.out]; exact resL_all)
  have hn2b : n2 ≤ 2000 := by rw [hn2]; exact HL2.out
  clear hE hn2 ho2 hB2
  obtain ⟨k1, hk1⟩ : ∃ k1, allK zs (ts.take q) = k1 := ⟨_, rfl⟩
  have HK1 := Lib.hid hk1
  clear hk1
  go_wp2_with fail
  go_at_call 22
  refine (all_is (· < w.heap.size) A n c zs Bo q c' (ts.take q) w2 k1 HK1.out (HI.out.lst.below HB2.out) (by omega) (cuts_head (HC.out.below HB2.out) q) (by rw [List.length_take, ← HM.out]; omega) (by omega) (fun t ht => HF.out t (List.mem_of_mem_take ht))).mono ?_
  rintro e w3 hE
  obtain ⟨B3, n3, c3, rfl, hn3', ho3, hB3⟩ := hE.res
  have hz3 := hB3.size
  have L3 := Lib.hid (lst_own hn3' ho3)
  have HB3 := Lib.hid (HB2.out.trans (hB3.mono hz2))
  have M3 := Lib.hid (L2.out.below hB3)
  have HL3 : Hid ((resL (runL zs (ts.take q)) k1).length ≤ 2000) := Lib.hid (by rw [← HK1.out]; exact resL_all)
  have hn3b : n3 ≤ 2000 := by rw [hn3']; exact HL3.out
  clear hE hn3' ho3 hB3 HB2 L2
  have hkk : (k == k) = true := by simp
  by_cases h0 : k1 = 0
  · subst h0
    have PG := Lib.hid (parts_good HK1.out)
    have HK3 : Hid (allK (resL (runL zs (ts.take q)) 0) (ts.drop q) = k) := Lib.hid (by
      show allK (runL zs (ts.take q)) (ts.drop q) = k
      rw [PG.out.1]; exact HK.out)
    go_wp2_with fail
    go_at_call 22
    refine (all_is (fun _ => True) B3 n3 c3 _ (tailS Bo c' q) (m - q) (c' - q) (ts.drop q) w3 k HK3.out L3.out.any (by omega) (cuts_tail (Cuts.any' (HC.out.below HB3.out)) q (by rw [← HM.out]; exact hqm) (by rw [← HM.out]; exact hmc)) (by rw [List.length_drop, ← HM.out]) (by omega) (fun t ht => HF.out t (List.mem_of_mem_drop ht))).mono ?_
    rintro e w4 hE
    obtain ⟨B4, n4, c4, rfl, hn4, ho4, hB4⟩ := hE.res
    have hz4 := hB4.size
    have HB4 := Lib.hid (HB3.out.trans (hB4.mono (by omega)))
    have M4 := Lib.hid (M3.out.below hB4)
    have e4 : resL (runL (resL (runL zs (ts.take q)) 0) (ts.drop q)) k = resL (runL zs ts) k := by
      have : runL (resL (runL zs (ts.take q)) 0) (ts.drop q) = runL zs ts := PG.out.2
      rw [this]
    rw [e4] at hn4 ho4
    have L4 := Lib.hid (lst_own hn4 ho4)
    have hn4b : n4 ≤ 2000 := by rw [hn4]; exact HL2.out
    clear hE hn4 ho4 hB4 HB3 M3 L3 e4
    go_wp2_with fail
    go_at_call 16
    refine (same12_b B2 B4 c2 c4 n2 n4 _ _ w4 true M4.out.len L4.out.len (by omega) (by omega) (by simp) M4.out.srd L4.out.srd).mono ?_
    rintro e w5 ⟨rfl, hB5⟩
    have HB5 := Lib.hid (HB4.out.trans (hB5.mono (by omega)))
    clear hB5 HB4 M4 L4
    go_wp2_with fail
    go_at_call 21
    refine (does_is w5 ((HV.out.below HB5.out).more HB5.out.size)).mono ?_
    rintro e w6 ⟨rfl, hB6⟩
    have HB6 := Lib.hid (HB5.out.trans (hB6.mono HB5.out.size))
    clear hB6 HB5
    go_wp2
    go_ret
    exact ⟨rfl, HB6.out⟩
  · obtain rfl : k = k1 := by rw [← HK.out, ← HK1.out]; exact parts_bad (by rw [HK1.out]; exact h0)
    have hqb : (k == 0) = false := by simpa using h0
    have hqn : (k != 0) = true := by rw [bne, hqb]; rfl
    obtain rfl : n2 = 0 := by
      have := M3.out.len
      unfold resL at this
      rw [if_neg h0] at this
      simpa using this
    clear h0
    go_wp2_with fail
    go_at_call 21
    refine (does_is w3 ((HV.out.below HB3.out).more HB3.out.size)).mono ?_
    rintro e w6 ⟨rfl, hB6⟩
    have HB6 := Lib.hid (HB3.out.trans (hB6.mono HB3.out.size))
    clear hB6 HB3
    go_wp2
    go_ret
    exact ⟨rfl, HB6.out⟩
end Go.Proofs.YtakckmelojobkaaDoor.sps
