/- Saves: the document's own Write. -/
import Derived.Test.YtlbhegicapggeaaGreatSavRef
namespace Go.Proofs.YtlbhegicapggeaaGreat.sav
open Go.RowKit Go.Lib Go.Maps Go.WideMaps fil
set_option linter.unusedVariables false
set_option linter.unusedSimpArgs false
set_option linter.unnecessarySimpa false
set_option linter.unusedSectionVars false

section
variable {w w' : World} {F : Nat → Prop} {rb : Nat} {s : St}
/-- A call, where the system has gone already. -/
theorem rgone {k : FuncId} {args : Array Value} {r : Ending} {wb : World} {s' : St} (hW : RWent F rb s wb w) (H : ∀ F', RIs w rb s F' → Calls Tryz.prog k args w fun e w' => e = r ∧ RWent F' rb s' w w') :
    Calls Tryz.prog k args w fun e w' => e = r ∧ RWent F rb s' wb w' := by
  obtain ⟨hT, F', h1, h2⟩ := hW
  exact (H F' h2).mono fun e w' ⟨he, h⟩ => ⟨he, RWent.trans hT h1 h⟩
theorem left_go {r1 r : Int × St} {f : St → Int × St} (h : andThen r1 f = r) (h0 : r1.1 = 0) : f r1.2 = r := by
  unfold andThen at h; rw [if_pos h0] at h; exact h
theorem left_stop {r1 r : Int × St} {f : St → Int × St} (h : andThen r1 f = r) (h0 : r1.1 ≠ 0) : r1 = r := by
  unfold andThen at h; rw [if_neg h0] at h; exact h

set_option maxHeartbeats 2000000 in
set_option maxRecDepth 100000 in
theorem refWrite_is (nm t : ByteArray) (w : World) (hn : nm.size ≤ maxLen) (ht : t.size ≤ 1000000) (h : RIs w rb s F) :
    Calls Tryz.prog 12 #[.pointer (some ⟨rb, 0, none⟩), .string nm, .string t] w fun e w' => e = .returned (.int .i64 (sWrite s nm.data.toList t.data.toList).1) ∧ RWent F rb (sWrite s nm.data.toList t.data.toList).2 w w' := by
  have C := on_is w h
  have C2 := refName_is nm w hn
  have HW := Lib.hid (RWent.refl h)
  have htx := tx_parts nm
  have C3 := refClean_is w h
  rw [← rest_zero]
  generalize hr : rest nm.data.toList t.data.toList 0 s = r
  have hr0 : andThen (sAgainst s nm.data.toList, s) (rest nm.data.toList t.data.toList 1) = r := hr
  clear hr h
  unfold sAgainst at hr0
  cases hb : s.off
  · rw [hb, if_neg Bool.false_ne_true] at C
    rw [hb, if_neg Bool.false_ne_true] at hr0
    have C := Lib.hid C
    cases hi : isNm nm.data.toList
    · rw [hi] at C2 htx
      rw [show isTx nm.data.toList = false from htx, if_neg Bool.false_ne_true] at hr0
      have e := left_stop hr0 (show (2 : Int) ≠ 0 by decide)
      subst e
      have C2 := Lib.hid C2
      clear hb hi htx hr0 C3
      go_enter Tryz.func12, Tryz.ntmps12
      go_wp2_with (first | (go_at_call 19; refine C.out.mono ?_; rintro e w' ⟨rfl, rfl⟩) | (go_at_call 20; refine C2.out.mono ?_; rintro e w' ⟨rfl, rfl⟩))
      go_ret
      exact ⟨rfl, HW.out⟩
    · rw [hi] at C2 htx
      have C2 := Lib.hid C2
      cases hq : (nm.toList == [126])
      · rw [hq] at htx
        rw [show isTx nm.data.toList = true from htx, if_pos rfl] at hr0
        have h1 : andThen (sClean s) (rest nm.data.toList t.data.toList 2) = r := left_go hr0 rfl
        have hq2 : ¬ nm.toList = [126] := by simpa using hq
        have H1 := Lib.hid h1
        have C3 := Lib.hid C3
        clear hb hi htx hr0 h1
        go_enter Tryz.func12, Tryz.ntmps12
        go_wp2_with fail
        go_at_call 19
        refine C.out.mono ?_
        rintro e w' ⟨rfl, rfl⟩
        go_wp2_with fail
        go_at_call 20
        refine C2.out.mono ?_
        rintro e w' ⟨rfl, rfl⟩
        go_wp2_with fail
        go_at_call 10
        refine C3.out.mono ?_
        rintro e w1 ⟨rfl, hW1⟩
        clear C C2 C3
        have H := H1.out
        generalize sClean s = r1 at *
        obtain ⟨z1, s1⟩ := r1
        simp only at hW1 H
        clear H1
        by_cases z0 : z1 = 0
        · subst z0
          have h2 : andThen (sAppend s1 dn t.data.toList) (rest nm.data.toList t.data.toList 3) = r := left_go H rfl
          have C := rgone hW1 fun F' hI => refAppend_is ⟨#[126]⟩ t w1 (by decide) ht hI
          rw [show (⟨#[126]⟩ : ByteArray).data.toList = dn from rfl] at C
          have H2 := Lib.hid h2
          have C := Lib.hid C
          clear H h2 hW1
          go_wp2_with fail
          go_at_call 34
          refine C.out.mono ?_
          rintro e w2 ⟨rfl, hW2⟩
          clear C
          have H := H2.out
          generalize sAppend s1 dn t.data.toList = r2 at *
          obtain ⟨z2, s2⟩ := r2
          simp only at hW2 H
          clear H2
          by_cases z0 : z2 = 0
          · subst z0
            have h3 : andThen (sSync s2 dn) (rest nm.data.toList t.data.toList 4) = r := left_go H rfl
            have C := rgone hW2 fun F' hI => refSync_is ⟨#[126]⟩ w2 (by decide) hI
            rw [show (⟨#[126]⟩ : ByteArray).data.toList = dn from rfl] at C
            have H3 := Lib.hid h3
            have C := Lib.hid C
            clear H h3 hW2
            go_wp2_with fail
            go_at_call 35
            refine C.out.mono ?_
            rintro e w3 ⟨rfl, hW3⟩
            clear C
            have H := H3.out
            generalize sSync s2 dn = r3 at *
            obtain ⟨z3, s3⟩ := r3
            simp only at hW3 H
            clear H3
            by_cases z0 : z3 = 0
            · subst z0
              have h4 : andThen (sRename s3 dn nm.data.toList) (fun s => (0, s)) = r := left_go H rfl
              have h5 : sRename s3 dn nm.data.toList = r := by
                rw [← h4]
                unfold andThen
                split
                · rename_i hz
                  exact Prod.ext hz rfl
                · rfl
              have C := rgone hW3 fun F' hI => refRename_is ⟨#[126]⟩ nm w3 (by decide) hn hI
              rw [show (⟨#[126]⟩ : ByteArray).data.toList = dn from rfl, h5] at C
              have C := Lib.hid C
              clear H h4 h5 hW3
              go_wp2_with fail
              go_at_call 36
              refine C.out.mono ?_
              rintro e w4 ⟨rfl, hW4⟩
              clear C
              go_wp2
              go_ret
              exact ⟨rfl, hW4⟩
            · have e := left_stop H z0
              subst e
              have hd : (z3 == 0) = false := by simpa using z0
              clear H
              go_wp2
              go_ret
              exact ⟨rfl, hW3⟩
          · have e := left_stop H z0
            subst e
            have hd : (z2 == 0) = false := by simpa using z0
            clear H
            go_wp2
            go_ret
            exact ⟨rfl, hW2⟩
        · have e := left_stop H z0
          subst e
          have hd : (z1 == 0) = false := by simpa using z0
          clear H
          go_wp2
          go_ret
          exact ⟨rfl, hW1⟩
      · rw [hq] at htx
        rw [show isTx nm.data.toList = false from htx, if_neg Bool.false_ne_true] at hr0
        have e := left_stop hr0 (show (2 : Int) ≠ 0 by decide)
        subst e
        have hq2 : nm.toList = [126] := by simpa using hq
        clear hb hi htx hr0 C3
        go_enter Tryz.func12, Tryz.ntmps12
        go_wp2_with (first | (go_at_call 19; refine C.out.mono ?_; rintro e w' ⟨rfl, rfl⟩) | (go_at_call 20; refine C2.out.mono ?_; rintro e w' ⟨rfl, rfl⟩))
        go_ret
        exact ⟨rfl, HW.out⟩
  · rw [hb, if_pos rfl] at C
    rw [hb, if_pos rfl] at hr0
    have e := left_stop hr0 (show (51 : Int) ≠ 0 by decide)
    subst e
    have C := Lib.hid C
    clear hb C2 C3 htx hr0
    go_enter Tryz.func12, Tryz.ntmps12
    go_wp2_with (go_at_call 19; refine C.out.mono ?_; rintro e w' ⟨rfl, rfl⟩)
    go_ret
    exact ⟨rfl, HW.out⟩
end
end Go.Proofs.YtlbhegicapggeaaGreat.sav
