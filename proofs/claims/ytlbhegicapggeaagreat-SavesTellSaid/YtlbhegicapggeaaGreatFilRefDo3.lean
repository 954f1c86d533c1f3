/- Files: the document's own system: Rename, Append. -/
import Derived.Test.YtlbhegicapggeaaGreatFilRefDo2
namespace Go.Proofs.YtlbhegicapggeaaGreat.fil
open Go.RowKit Go.Lib Go.Maps Go.WideMaps
set_option linter.unusedVariables false
set_option linter.unusedSimpArgs false
set_option linter.unnecessarySimpa false
set_option linter.unusedSectionVars false

theorem okf_new {s : St} (h : Ok s) {nm t : List UInt8} (he : errAppend s nm t.length = 0) (hf : find s.files nm = none) : OkF s.cap (ins s.files ⟨nm, [], 0⟩) := by
  obtain ⟨h1, h2, h3⟩ := errAppend_ok he
  have hd := del_none hf
  refine okf_ins h.f ⟨nm, [], 0⟩ h1 (Nat.le_refl _) ?_ ?_
  · simp only [hd]
    simp only [List.length_nil]; omega
  · simp only [hd]
    have := h3 hf; omega

section
variable {w w' : World} {rb : Nat} {s s' : St} {F F' : Nat → Prop}
set_option maxHeartbeats 2000000 in
set_option maxRecDepth 100000 in
theorem refRename_is (a b : ByteArray) (w : World) (ha : a.size ≤ maxLen) (hb : b.size ≤ maxLen) (h : RIs w rb s F) :
    Calls Tryz.prog 36 #[.pointer (some ⟨rb, 0, none⟩), .string a, .string b] w fun e w' => e = .returned (.int .i64 (sRename s a.data.toList b.data.toList).1) ∧ RWent F rb (sRename s a.data.toList b.data.toList).2 w w' := by
  have HS := Lib.hid h
  obtain ⟨v, kv, z, fl, h⟩ := h
  unfold sRename errRename
  have CN := Lib.hid (fun W => refName_is b W hb)
  by_cases ho : s.off = true
  · have C := Lib.hid (there_off a w ho h)
    unfold stroke
    rw [if_pos ho]
    clear h CN
    go_enter Tryz.func36, Tryz.ntmps36
    go_wp2_with (go_at_call 58; refine C.out.mono ?_; rintro e w' ⟨rfl, rfl⟩)
    go_ret
    exact ⟨rfl, RWent.refl HS.out⟩
  · have ho' : s.off = false := by simpa using ho
    rcases hf : find s.files a.data.toList with _ | x
    · have C := Lib.hid (there_none a w ha ho' hf h)
      unfold stroke
      rw [if_neg ho, Option.isNone_none, if_pos rfl, if_neg (by decide)]
      clear h hf CN
      go_enter Tryz.func36, Tryz.ntmps36
      go_wp2_with (go_at_call 58; refine C.out.mono ?_; rintro e w' ⟨rfl, rfl⟩)
      go_ret
      exact ⟨rfl, RWent.refl HS.out⟩
    · obtain ⟨i, hp, hx⟩ := place_some hf
      have hxn := (find_mem hf).2
      have C := Lib.hid (there_some a w i ha ho' hp h)
      rw [Option.isNone_some, if_neg (by decide)]
      rcases hbn : isNm b.data.toList with _ | _
      · rw [hbn] at CN
        rw [if_pos rfl]
        unfold stroke
        rw [if_neg ho, if_neg (by decide)]
        clear h hf hp hx
        go_enter Tryz.func36, Tryz.ntmps36
        go_wp2_with (first | (go_at_call 58; refine C.out.mono ?_; rintro e w' ⟨rfl, rfl⟩) | (go_at_call 20; refine (CN.out _).mono ?_; rintro e w' ⟨rfl, rfl⟩))
        go_ret
        exact ⟨rfl, RWent.refl HS.out⟩
      · rw [hbn] at CN
        rw [if_neg (by decide)]
        have CF := Lib.hid (refFails_is w ho' h)
        have hdo : doRename s a.data.toList b.data.toList = ins (del s.files a.data.toList) ⟨b.data.toList, x.bytes, x.plat⟩ := by unfold doRename; rw [hf]
        have hok := okf_rename h.ok (a := a.data.toList) (b := b.data.toList) (by unfold errRename; rw [hf, hbn]; rfl)
        rw [stroke_late ho', hdo]
        rw [hdo, ← failing_cap s] at hok
        rcases hfa : (failing s).1 with _ | _
        · have hfl := failing_files hfa
          rw [hfa] at CF
          generalize failing s = sf at *
          clear h hf hp hdo hfa ho ho'
          rw [if_neg (by decide)]
          have HX := Lib.hid hx
          clear hx
          go_enter Tryz.func36, Tryz.ntmps36
          go_wp2_with fail
          go_at_call 58
          refine C.out.mono ?_
          rintro e w' ⟨rfl, rfl⟩
          clear C
          go_wp2_with fail
          go_at_call 20
          refine (CN.out _).mono ?_
          rintro e w' ⟨rfl, rfl⟩
          clear CN
          go_wp2_with fail
          go_at_call 62
          refine CF.out.mono ?_
          rintro e w1 ⟨rfl, hT1, F1, hF1, v1, kv1, z1, fl1, h1⟩
          clear CF
          have hx1 := HX.out
          rw [← hfl] at hx1
          obtain ⟨g, off, c, hv, h0, hi, hlc, hc9, hgl, hFg, q0, q1, q2, fr⟩ := h1.at hx1
          have c4 := h1.cells.2.2.2.2.1
          rw [hv] at c4
          have hBX : Below w1.heap.size w1 (w1.alloc (.cells #[.string b, .string (B x.bytes), .int .i64 x.plat] 77)) := (Below.refl _ w1).alloc (Nat.le_refl _) _
          have hAX := At.new w1 77 #[.string b, .string (B x.bytes), .int .i64 x.plat]
          have CW := Lib.hid (refWithout_is i x _ hx1 (h1.below hBX))
          rw [hfl, hxn] at CW
          have HX1 := Lib.hid h1
          have HT1 := Lib.hid hT1
          have HF1 := Lib.hid hF1
          have HV := Lib.hid hv
          have HBX := Lib.hid hBX
          have HAX := Lib.hid hAX
          clear h1 hT1 hF1 hx1 fr hv h0 hgl hFg hBX hAX
          generalize sf.2.files.length = n at *
          go_wp2_with fail
          go_at_call 63
          refine CW.out.mono ?_
          rintro e w2 ⟨rfl, hT2, F2, hF2, v2, kv2, z2, fl2, h2⟩
          clear CW
          have hA2 := hT2.at HAX.out (fun hb => by have := HX1.out.lt _ hb; omega)
          have p0 : w2.cell? ⟨w1.heap.size, 0, none⟩ = some (.string b) := hA2.cell 0
          have p1 : w2.cell? ⟨w1.heap.size, 1, none⟩ = some (.string (B x.bytes)) := hA2.cell 1
          have p2 : w2.cell? ⟨w1.heap.size, 2, none⟩ = some (.int .i64 x.plat) := hA2.cell 2
          have CI := refWith_is ⟨b.data.toList, x.bytes, x.plat⟩ w2 (ok_files h2.ok (by exact hok)) h2
          rw [show B b.data.toList = b from B_list b] at CI
          have CI := Lib.hid (CI.mono fun e w' ⟨he, hw⟩ => And.intro he (RWent.trans HT1.out HF1.out (RWent.after (RWent.trans hT2 hF2 hw) HBX.out)))
          clear h2 hT2 hF2 hA2
          go_wp2_with fail
          go_at_call 72
          refine CI.out.mono ?_
          rintro e w3 ⟨rfl, HW⟩
          clear CI
          go_wp2
          go_ret
          exact ⟨rfl, HW⟩
        · rw [hfa] at CF
          generalize failing s = sf at *
          clear h hf hp hdo hfa ho ho' hx
          rw [if_pos rfl]
          go_enter Tryz.func36, Tryz.ntmps36
          go_wp2_with fail
          go_at_call 58
          refine C.out.mono ?_
          rintro e w' ⟨rfl, rfl⟩
          clear C
          go_wp2_with fail
          go_at_call 20
          refine (CN.out _).mono ?_
          rintro e w' ⟨rfl, rfl⟩
          clear CN
          go_wp2_with fail
          go_at_call 62
          refine CF.out.mono ?_
          rintro e w1 ⟨rfl, HW⟩
          clear CF
          go_wp2
          go_ret
          exact ⟨rfl, HW⟩
end
end Go.Proofs.YtlbhegicapggeaaGreat.fil
