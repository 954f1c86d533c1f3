/- Terminals: Feed, Grid, isNone, of the program. -/
import Derived.Test.YteekihhngjbjgaaVttByte
import Derived.Test.YteekihhngjbjgaaGrdClone
namespace Go.Proofs.Yteekihhngjbjgaa.vtt
open Go.RowKit Go.Lib Go.Proofs.Yteekihhngjbjgaa.grd
set_option linter.unusedVariables false
set_option linter.unusedSimpArgs false
set_option linter.unnecessarySimpa false
set_option linter.unusedSectionVars false

theorem fnv_not (e : Nat) : ∃ f : Nat, fnv e = .func (.func f) #[] #[] := by
  unfold fnv
  split
  · exact ⟨_, rfl⟩
  split
  · exact ⟨_, rfl⟩
  · exact ⟨_, rfl⟩
theorem eqF0 (d f : Nat) (W : World) : (Op.equalIn (d + 1) 41 (.func (.func f) #[] #[]) .nilFunc).run Try.prog W = .ok false W := by
  simp [Op.equalIn, run_underlying Try.underlying41]
theorem eqN0 (d : Nat) (W : World) : (Op.equalIn (d + 1) 41 .nilFunc .nilFunc).run Try.prog W = .ok true W := by
  simp [Op.equalIn, run_underlying Try.underlying41]
theorem eqF (f : Nat) (W : World) : (binOp .eql 41 (.func (.func f) #[] #[]) .nilFunc).run Try.prog W = .ok (.bool false) W := by
  simp only [binOp]
  simp [Op.equal, Op.maxDepth, eqF0 9999 f]
theorem eqN (W : World) : (binOp .eql 41 .nilFunc .nilFunc).run Try.prog W = .ok (.bool true) W := by
  simp only [binOp]
  simp [Op.equal, Op.maxDepth, eqN0 9999]
set_option maxRecDepth 100000 in
/-- One that New made is one. -/
theorem isNone_no (lo hi b : Nat) (s : Ts) (w : World) (H : Vt w lo hi b s) :
    Calls Try.prog 29 #[.pointer (some ⟨b, 0, none⟩)] w fun e w' => e = .returned (.bool false) ∧ w = w' := by
  obtain ⟨h, g, hs, cs, o, H⟩ := H
  obtain ⟨f, hf⟩ := fnv_not s.esc
  have a5 := H.ten.2.2.2.2.2.1
  rw [hf] at a5
  have hE := eqF f
  clear H hf
  go_enter Try.func29, Try.ntmps29
  go_wp2
  go_ret
  exact ⟨rfl, rfl⟩
/-- nil is none. -/
theorem isNone_nil (w : World) : Calls Try.prog 29 #[.pointer none] w fun e w' => e = .returned (.bool true) ∧ w = w' := by
  have hE := eqN
  go_enter Try.func29, Try.ntmps29
  go_wp2
  go_ret
  exact ⟨rfl, rfl⟩
set_option maxRecDepth 100000 in
/-- One of nobody's making is none. -/
theorem isNone_zero (b : Nat) (w : World) (a5 : w.cell? ⟨b, 5, none⟩ = some .nilFunc) : Calls Try.prog 29 #[.pointer (some ⟨b, 0, none⟩)] w fun e w' => e = .returned (.bool true) ∧ w = w' := by
  have hE := eqN
  go_enter Try.func29, Try.ntmps29
  go_wp2
  go_ret
  exact ⟨rfl, rfl⟩
theorem feed_take (s : Ts) (t : ByteArray) (k : Nat) (h : k < t.size) : feed s (t.data.toList.take (k + 1)) = step (feed s (t.data.toList.take k)) t[k] := by
  have e : t.data.toList.take (k + 1) = t.data.toList.take k ++ [t[k]] := by rw [List.take_succ_eq_append_getElem (by simpa using h)]; rfl
  rw [e, feed_snoc]
set_option maxHeartbeats 4000000 in
set_option maxRecDepth 100000 in
theorem feed_is (lo hi b : Nat) (s : Ts) (t : ByteArray) (w : World) (ht : t.size ≤ 1000000) (H : Vt w lo hi b s) :
    Calls Try.prog 14 #[.pointer (some ⟨b, 0, none⟩), .string t] w fun e w' => e = .returned (.int .i64 0) ∧ Went lo hi b (feed s t.data.toList) w w' := by
  have HH := Lib.hid H
  have CN := Lib.hid (isNone_no lo hi b s w H)
  clear H
  go_enter Try.func14, Try.ntmps14
  go_wp2_with fail
  go_at_call 29
  refine CN.out.mono ?_
  rintro e w' ⟨rfl, rfl⟩
  clear CN
  go_wp2
  go_loopg [5, 10] t.size (fun g s5 s10 wr => ∃ k : Nat, k ≤ t.size ∧ t.size - k ≤ g ∧ s10 = .int .i64 k ∧ Hid (Went lo hi b (feed s (t.data.toList.take k)) w wr))
  case atStart => exact ⟨0, Nat.zero_le _, by omega, rfl, Lib.hid ⟨HH.out, Tn.refl _ _ _⟩⟩
  case round =>
    obtain ⟨k, hk, hg, rfl, HW⟩ := hrel
    by_cases hlt : k < t.size
    · have HF := Lib.hid (feed_take s t k hlt)
      have HT := Lib.hid HW.out.2
      have HV : Hid (Vt wr lo hi b (feed s (t.data.toList.take k))) := Lib.hid HW.out.1
      clear HW
      generalize feed s (t.data.toList.take k) = s1 at HF HV
      obtain ⟨h1, g1, hs1, cs1, o1, H1⟩ := HV.out
      have a5 := H1.ten.2.2.2.2.2.1
      have he := H1.ok.esc
      clear H1
      have STEP : Hid (∀ w' : World, Went lo hi b (step s1 t[k]) wr.drew w' → Went lo hi b (feed s (t.data.toList.take (k + 1))) w w') := Lib.hid fun w' hw => by
        rw [HF.out]
        exact Went.trans (HT.out.trans ((Tn.refl lo hi wr).drew)) hw
      by_cases e0 : s1.esc = 0
      · rw [e0, fnv0] at a5
        have C := Lib.hid (show_is lo hi b s1 t[k] wr.drew HV.out.drew)
        have HS : Hid (step s1 t[k] = show' s1 t[k]) := Lib.hid (by unfold step; rw [if_pos e0])
        clear e0 he
        go_wp2_with fail
        go_still_tail 8, (by kernel_rfl)
        change wpList _ _ _ _ _ wr.drew
        go_wp2_with fail
        go_at_call 25
        refine C.out.mono ?_
        rintro e w1 ⟨rfl, hW⟩
        have NX := Lib.hid (STEP.out w1 (by rw [HS.out]; exact hW))
        clear hW C
        go_wp2
        go_roundg (t.size - (k + 1))
        case measure => omega
        case rel => exact ⟨k + 1, by omega, by omega, by go_num, NX⟩
      · by_cases e1 : s1.esc = 1
        · rw [e1, fnv1] at a5
          have C := Lib.hid (begin_is lo hi b s1 t[k] wr.drew HV.out.drew)
          have HS : Hid (step s1 t[k] = begin' s1 t[k]) := Lib.hid (by unfold step; rw [if_neg e0, if_pos e1])
          clear e0 e1 he
          go_wp2_with fail
          go_still_tail 8, (by kernel_rfl)
          change wpList _ _ _ _ _ wr.drew
          go_wp2_with fail
          go_at_call 38
          refine C.out.mono ?_
          rintro e w1 ⟨rfl, hW⟩
          have NX := Lib.hid (STEP.out w1 (by rw [HS.out]; exact hW))
          clear hW C
          go_wp2
          go_roundg (t.size - (k + 1))
          case measure => omega
          case rel => exact ⟨k + 1, by omega, by omega, by go_num, NX⟩
        · have e2 : s1.esc = 2 := by omega
          rw [e2, fnv2] at a5
          have C := Lib.hid (goOn_is lo hi b s1 t[k] wr.drew HV.out.drew)
          have HS : Hid (step s1 t[k] = goOn s1 t[k]) := Lib.hid (by unfold step; rw [if_neg e0, if_neg e1])
          clear e0 e1 e2 he
          go_wp2_with fail
          go_still_tail 8, (by kernel_rfl)
          change wpList _ _ _ _ _ wr.drew
          go_wp2_with fail
          go_at_call 46
          refine C.out.mono ?_
          rintro e w1 ⟨rfl, hW⟩
          have NX := Lib.hid (STEP.out w1 (by rw [HS.out]; exact hW))
          clear hW C
          go_wp2
          go_roundg (t.size - (k + 1))
          case measure => omega
          case rel => exact ⟨k + 1, by omega, by omega, by go_num, NX⟩
    · have hkn : k = t.size := by omega
      subst hkn
      have FIN : Hid (Went lo hi b (feed s t.data.toList) w wr) := Lib.hid (by
        have := HW.out
        rwa [List.take_of_length_le (by simp)] at this)
      clear HW
      go_wp2
      go_ret
      exact ⟨rfl, FIN.out⟩
theorem feed_nil' (w : World) (t : ByteArray) : Calls Try.prog 14 #[.pointer none, .string t] w fun e w' => e = .returned (.int .i64 1) ∧ w = w' := by
  have CN := Lib.hid (isNone_nil w)
  go_enter Try.func14, Try.ntmps14
  go_wp2_with fail
  go_at_call 29
  refine CN.out.mono ?_
  rintro e w' ⟨rfl, rfl⟩
  clear CN
  go_wp2
  go_ret
  exact ⟨rfl, rfl⟩
theorem feed_zero (b : Nat) (w : World) (a5 : w.cell? ⟨b, 5, none⟩ = some .nilFunc) (t : ByteArray) : Calls Try.prog 14 #[.pointer (some ⟨b, 0, none⟩), .string t] w fun e w' => e = .returned (.int .i64 1) ∧ w = w' := by
  have CN := Lib.hid (isNone_zero b w a5)
  clear a5
  go_enter Try.func14, Try.ntmps14
  go_wp2_with fail
  go_at_call 29
  refine CN.out.mono ?_
  rintro e w' ⟨rfl, rfl⟩
  clear CN
  go_wp2
  go_ret
  exact ⟨rfl, rfl⟩
end Go.Proofs.Yteekihhngjbjgaa.vtt
