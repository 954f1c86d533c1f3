/- Files: the document's own system: Sync, Truncate, Rename, Remove. -/
import Derived.Test.YtlbhegicapggeaaGreatFilRefDo
namespace Go.Proofs.YtlbhegicapggeaaGreat.fil
open Go.RowKit Go.Lib Go.Maps Go.WideMaps
set_option linter.unusedVariables false
set_option linter.unusedSimpArgs false
set_option linter.unnecessarySimpa false
set_option linter.unusedSectionVars false

theorem front_ins (s : ByteArray) (k : Nat) (hle : k ≤ s.size) : ∀ W, (Instr.slice 9 (.string s) none (some (.int .i64 (k : Int))) none).run Tryz.prog W = .ok (.string (B (s.data.toList.take k))) W := fun W => front_slice s k hle W

section
variable {w w' : World} {rb : Nat} {s s' : St} {F F' : Nat → Prop}
/-- What is left of a file whose bytes, or whose count of those on the platter, are others. -/
theorem put_went {v kv : Value} {z : Int} {fl : Bool} {w1 : World} {s1 : St} {F1 : Nat → Prop} (h : RFz true w1 rb s1 v kv z fl F1) {g off c : Nat} (hv : v = .slice (some ⟨g, off, none⟩) s1.files.length c) (h0 : Hid (off = 0)) {i j : Nat} {x y : Fl} {u : Value} (hx : s1.files[i]? = some x) (hn : y.name = x.name) (hj : j < 3) (hu : fcells y = (fcells x).set j u) (hok : OkF s1.cap (ins s1.files y)) :
    RWent F1 rb { s1 with files := ins s1.files y } w1 (w1.setCell ⟨g, off + i * 3 + j, none⟩ u) := by
  subst hv
  refine h.went (l' := ins s1.files y) ((Turned.refl (fun b => (Value.slice (some ⟨g, off, none⟩) s1.files.length c).ownBlock = some b) w1).setCell (p := ⟨g, off + i * 3 + j, none⟩) (.inl rfl) _) ?_ (ok_files h.ok hok)
  rw [← set_ins h.ok.rise hx hn]
  exact own_put h.row h0 hx hj hu
theorem put2_went {v kv : Value} {z : Int} {fl : Bool} {w1 : World} {s1 : St} {F1 : Nat → Prop} (h : RFz true w1 rb s1 v kv z fl F1) {g off c : Nat} (hv : v = .slice (some ⟨g, off, none⟩) s1.files.length c) (h0 : Hid (off = 0)) {i : Nat} {x y y2 : Fl} {u u2 : Value} (hx : s1.files[i]? = some x) (hn : y2.name = x.name) (hu : fcells y = (fcells x).set 1 u) (hu2 : fcells y2 = (fcells y).set 2 u2) (hok : OkF s1.cap (ins s1.files y2)) :
    RWent F1 rb { s1 with files := ins s1.files y2 } w1 ((w1.setCell ⟨g, off + i * 3 + 1, none⟩ u).setCell ⟨g, off + i * 3 + 2, none⟩ u2) := by
  subst hv
  have hi := (List.getElem?_eq_some_iff.1 hx).1
  refine h.went (l' := ins s1.files y2) (((Turned.refl (fun b => (Value.slice (some ⟨g, off, none⟩) s1.files.length c).ownBlock = some b) w1).setCell (p := ⟨g, off + i * 3 + 1, none⟩) (.inl rfl) _).setCell (p := ⟨g, off + i * 3 + 2, none⟩) (.inl rfl) _) ?_ (ok_files h.ok hok)
  rw [← set_ins h.ok.rise hx hn]
  have o1 := own_put (j := 1) h.row h0 hx (by omega) hu
  have o2 := own_put (i := i) (j := 2) (x := y) (y := y2) (u := u2) (by rw [List.length_set] at o1 ⊢; exact o1) h0 (List.getElem?_set_self hi) (by omega) hu2
  rw [List.set_set] at o2
  exact o2

set_option maxHeartbeats 2000000 in
set_option maxRecDepth 100000 in
theorem refSync_is (nm : ByteArray) (w : World) (hn : nm.size ≤ maxLen) (h : RIs w rb s F) :
    Calls Tryz.prog 35 #[.pointer (some ⟨rb, 0, none⟩), .string nm] w fun e w' => e = .returned (.int .i64 (sSync s nm.data.toList).1) ∧ RWent F rb (sSync s nm.data.toList).2 w w' := by
  have HS := Lib.hid h
  obtain ⟨v, kv, z, fl, h⟩ := h
  unfold sSync errThere
  by_cases ho : s.off = true
  · have C := Lib.hid (there_off nm w ho h)
    unfold stroke
    rw [if_pos ho]
    clear h
    go_enter Tryz.func35, Tryz.ntmps35
    go_wp2_with (go_at_call 58; refine C.out.mono ?_; rintro e w' ⟨rfl, rfl⟩)
    go_ret
    exact ⟨rfl, RWent.refl HS.out⟩
  · have ho' : s.off = false := by simpa using ho
    rcases hf : find s.files nm.data.toList with _ | x
    · have C := Lib.hid (there_none nm w hn ho' hf h)
      unfold stroke
      rw [if_neg ho, Option.isNone_none, if_pos rfl, if_neg (by decide)]
      clear h hf
      go_enter Tryz.func35, Tryz.ntmps35
      go_wp2_with (go_at_call 58; refine C.out.mono ?_; rintro e w' ⟨rfl, rfl⟩)
      go_ret
      exact ⟨rfl, RWent.refl HS.out⟩
    · obtain ⟨i, hp, hx⟩ := place_some hf
      have hxn := (find_mem hf).2
      have C := Lib.hid (there_some nm w i hn ho' hp h)
      have CF := Lib.hid (refFails_is w ho' h)
      have hdo : doSync s nm.data.toList = ins s.files ⟨nm.data.toList, x.bytes, x.bytes.length⟩ := by unfold doSync; rw [hf]
      have hok := okf_sync h.ok nm.data.toList
      rw [Option.isNone_some, if_neg (by decide), stroke_late ho', hdo]
      rw [hdo, ← failing_cap s] at hok
      rcases hfa : (failing s).1 with _ | _
      · have hfl := failing_files hfa
        rw [hfa] at CF
        generalize failing s = sf at *
        clear h hf hp hdo hfa ho ho'
        rw [if_neg (by decide)]
        go_enter Tryz.func35, Tryz.ntmps35
        go_wp2_with fail
        go_at_call 58
        refine C.out.mono ?_
        rintro e w' ⟨rfl, rfl⟩
        clear C
        go_wp2_with fail
        go_at_call 62
        refine CF.out.mono ?_
        rintro e w1 ⟨rfl, hT1, F1, hF1, v1, kv1, z1, fl1, h1⟩
        clear CF
        rw [← hfl] at hx
        obtain ⟨g, off, c, hv, h0, hi, hlc, hc9, hgl, hFg, q0, q1, q2, fr⟩ := h1.at hx
        have c4 := h1.cells.2.2.2.2.1
        have r2 : w1.frozen? ⟨g, off + i * 3 + 2, none⟩ = false := by rw [Nat.add_assoc]; exact fr _
        have HZ := put_went (i := i) (j := 2) (y := ⟨nm.data.toList, x.bytes, x.bytes.length⟩) (u := .int .i64 (B x.bytes).size) h1 hv h0 hx hxn.symm (by omega) (by rw [B_size, ← hxn]; rfl) (by rw [hfl]; exact hok)
        rw [hfl] at HZ
        have HZ := Lib.hid (RWent.trans hT1 hF1 HZ)
        rw [hv] at c4
        have hsb : (B x.bytes).size ≤ 1048576 := by rw [B_size]; have := total_mem (List.mem_of_getElem? hx); have := h1.ok.room; have := h1.ok.cap2; omega
        clear h1 hT1 hF1 hx fr hv h0 hgl hFg
        generalize B x.bytes = xb at *
        generalize sf.2.files.length = n at *
        go_wp2
        go_region
        all_goals (go_wp2; go_ret; exact ⟨rfl, HZ.out.drew⟩)
      · rw [hfa] at CF
        generalize failing s = sf at *
        clear h hf hp hdo hfa ho ho' hx
        rw [if_pos rfl]
        go_enter Tryz.func35, Tryz.ntmps35
        go_wp2_with fail
        go_at_call 58
        refine C.out.mono ?_
        rintro e w' ⟨rfl, rfl⟩
        clear C
        go_wp2_with fail
        go_at_call 62
        refine CF.out.mono ?_
        rintro e w1 ⟨rfl, HW⟩
        clear CF
        go_wp2
        go_ret
        exact ⟨rfl, HW⟩

set_option maxHeartbeats 2000000 in
set_option maxRecDepth 100000 in
theorem refTrunc_is (nm : ByteArray) (n : Int) (w : World) (hn : nm.size ≤ maxLen) (h : RIs w rb s F) :
    Calls Tryz.prog 41 #[.pointer (some ⟨rb, 0, none⟩), .string nm, .int .i64 n] w fun e w' => e = .returned (.int .i64 (sTrunc s nm.data.toList n).1) ∧ RWent F rb (sTrunc s nm.data.toList n).2 w w' := by
  have HS := Lib.hid h
  obtain ⟨v, kv, z, fl, h⟩ := h
  unfold sTrunc errTrunc
  by_cases ho : s.off = true
  · have C := Lib.hid (there_off nm w ho h)
    unfold stroke
    rw [if_pos ho]
    clear h
    go_enter Tryz.func41, Tryz.ntmps41
    go_wp2_with (go_at_call 58; refine C.out.mono ?_; rintro e w' ⟨rfl, rfl⟩)
    go_ret
    exact ⟨rfl, RWent.refl HS.out⟩
  · have ho' : s.off = false := by simpa using ho
    rcases hf : find s.files nm.data.toList with _ | x
    · have C := Lib.hid (there_none nm w hn ho' hf h)
      unfold stroke
      rw [if_neg ho]
      dsimp only
      rw [if_neg (by decide)]
      clear h hf
      go_enter Tryz.func41, Tryz.ntmps41
      go_wp2_with (go_at_call 58; refine C.out.mono ?_; rintro e w' ⟨rfl, rfl⟩)
      go_ret
      exact ⟨rfl, RWent.refl HS.out⟩
    · obtain ⟨i, hp, hx⟩ := place_some hf
      have hxn := (find_mem hf).2
      have C := Lib.hid (there_some nm w i hn ho' hp h)
      have hsb0 : (B x.bytes).size = x.bytes.length := B_size _
      have hsb : (B x.bytes).size ≤ 1048576 := by rw [B_size]; have := total_mem (List.mem_of_getElem? hx); have := h.ok.room; have := h.ok.cap2; omega
      have CF := Lib.hid (refFails_is w ho' h)
      have hok := okf_trunc h.ok nm.data.toList n
      obtain ⟨g, off, c, hv, h0, hi, hlc, hc9, hgl, hFg, q0, q1, q2, fr⟩ := h.at hx
      have c4 := h.cells.2.2.2.2.1
      rw [hv] at c4
      dsimp only
      by_cases hb : n < 0 ∨ (x.bytes.length : Int) < n
      · rw [if_pos hb]
        unfold stroke
        rw [if_neg ho, if_neg (by decide)]
        clear h hf hp hok ho ho' hx hv fr CF h0 hgl hFg
        rw [← hsb0] at hb
        clear hsb0
        generalize B x.bytes = xb at *
        generalize s.files.length = m at *
        by_cases hneg : n < 0
        · have hd : decide (n < 0) = true := decide_eq_true hneg
          go_enter Tryz.func41, Tryz.ntmps41
          go_wp2_with (go_at_call 58; refine C.out.mono ?_; rintro e w' ⟨rfl, rfl⟩)
          go_ret
          exact ⟨rfl, RWent.refl HS.out⟩
        · have hd : decide (n < 0) = false := decide_eq_false hneg
          have hgt : decide ((xb.size : Int) < n) = true := decide_eq_true (by omega)
          go_enter Tryz.func41, Tryz.ntmps41
          go_wp2_with (go_at_call 58; refine C.out.mono ?_; rintro e w' ⟨rfl, rfl⟩)
          go_ret
          exact ⟨rfl, RWent.refl HS.out⟩
      · rw [if_neg hb]
        obtain ⟨k, rfl⟩ : ∃ k : Nat, n = k := ⟨n.toNat, by omega⟩
        have hk : k ≤ (B x.bytes).size := by omega
        have hdo : doTrunc s nm.data.toList (k : Int) = ins s.files ⟨nm.data.toList, x.bytes.take k, min x.plat k⟩ := by unfold doTrunc; rw [hf]; simp
        rw [stroke_late ho', hdo]
        rw [hdo, ← failing_cap s] at hok
        have hd : decide ((k : Int) < 0) = false := decide_eq_false (by omega)
        have hgt : decide (((B x.bytes).size : Int) < (k : Int)) = false := decide_eq_false (by omega)
        rcases hfa : (failing s).1 with _ | _
        · have hfl := failing_files hfa
          rw [hfa] at CF
          generalize failing s = sf at *
          clear h hf hp hdo hfa ho ho' hb hgl hFg fr h0 hv
          rw [if_neg (by decide)]
          have HX := Lib.hid hx
          clear hx
          generalize hxb : B x.bytes = xb at *
          have HXB := Lib.hid hxb
          clear hxb hsb0
          generalize s.files.length = m at *
          go_enter Tryz.func41, Tryz.ntmps41
          go_wp2_with fail
          go_at_call 58
          refine C.out.mono ?_
          rintro e w' ⟨rfl, rfl⟩
          clear C
          go_wp2_with fail
          go_at_call 62
          refine CF.out.mono ?_
          rintro e w1 ⟨rfl, hT1, F1, hF1, v1, kv1, z1, fl1, h1⟩
          clear CF q0 q1 q2 c4 hlc hc9 hi
          have hx := HX.out
          rw [← hfl] at hx
          obtain ⟨g, off, c, hv, h0, hi, hlc, hc9, hgl, hFg, q0, q1, q2, fr⟩ := h1.at hx
          have c4 := h1.cells.2.2.2.2.1
          have r1 : w1.frozen? ⟨g, off + i * 3 + 1, none⟩ = false := by rw [Nat.add_assoc]; exact fr _
          have r2 : w1.frozen? ⟨g, off + i * 3 + 2, none⟩ = false := by rw [Nat.add_assoc]; exact fr _
          have HZ := put2_went (i := i) (y := ⟨x.name, x.bytes.take k, x.plat⟩) (y2 := ⟨nm.data.toList, x.bytes.take k, min x.plat k⟩) (u := .string (B (x.bytes.take k))) (u2 := .int .i64 ((min x.plat k : Nat) : Int)) h1 hv h0 hx hxn.symm rfl (by rw [← hxn]; rfl) (by rw [hfl]; exact hok)
          rw [hfl] at HZ
          have HZ := Lib.hid (RWent.trans hT1 hF1 HZ)
          rw [hv] at c4
          rw [HXB.out] at q1
          have SL := front_slice xb k hk
          rw [← HXB.out, list_B, HXB.out] at SL
          have hgrb : g ≠ rb := fun e => own_ne h1.row h1.head (by decide) (by rw [hv, e]; rfl)
          have hmin : min (x.plat : Int) (k : Int) = ((min x.plat k : Nat) : Int) := by omega
          clear h1 hT1 hF1 hx fr hv h0 hgl hFg
          generalize B (x.bytes.take k) = xt at *
          generalize sf.2.files.length = n at *
          go_wp2
          go_region
          all_goals
            go_wp2
            go_region
            all_goals (go_wp2; go_ret; first | exact ⟨rfl, HZ.out.drew⟩ | exact ⟨rfl, HZ.out.drew.drew⟩ | exact ⟨rfl, HZ.out.drewN _⟩)
        · rw [hfa] at CF
          generalize failing s = sf at *
          clear h hf hp hdo hfa ho ho' hx hb hgl hFg fr h0 hv hsb0
          rw [if_pos rfl]
          generalize B x.bytes = xb at *
          generalize s.files.length = m at *
          go_enter Tryz.func41, Tryz.ntmps41
          go_wp2_with fail
          go_at_call 58
          refine C.out.mono ?_
          rintro e w' ⟨rfl, rfl⟩
          clear C
          go_wp2_with fail
          go_at_call 62
          refine CF.out.mono ?_
          rintro e w1 ⟨rfl, HW⟩
          clear CF
          go_wp2
          go_ret
          exact ⟨rfl, HW⟩

set_option maxHeartbeats 2000000 in
set_option maxRecDepth 100000 in
theorem refRemove_is (nm : ByteArray) (w : World) (hn : nm.size ≤ maxLen) (h : RIs w rb s F) :
    Calls Tryz.prog 24 #[.pointer (some ⟨rb, 0, none⟩), .string nm] w fun e w' => e = .returned (.int .i64 (sRemove s nm.data.toList).1) ∧ RWent F rb (sRemove s nm.data.toList).2 w w' := by
  have HS := Lib.hid h
  obtain ⟨v, kv, z, fl, h⟩ := h
  unfold sRemove errThere
  by_cases ho : s.off = true
  · have C := Lib.hid (there_off nm w ho h)
    unfold stroke
    rw [if_pos ho]
    clear h
    go_enter Tryz.func24, Tryz.ntmps24
    go_wp2_with (go_at_call 58; refine C.out.mono ?_; rintro e w' ⟨rfl, rfl⟩)
    go_ret
    exact ⟨rfl, RWent.refl HS.out⟩
  · have ho' : s.off = false := by simpa using ho
    rcases hf : find s.files nm.data.toList with _ | x
    · have C := Lib.hid (there_none nm w hn ho' hf h)
      unfold stroke
      rw [if_neg ho, Option.isNone_none, if_pos rfl, if_neg (by decide)]
      clear h hf
      go_enter Tryz.func24, Tryz.ntmps24
      go_wp2_with (go_at_call 58; refine C.out.mono ?_; rintro e w' ⟨rfl, rfl⟩)
      go_ret
      exact ⟨rfl, RWent.refl HS.out⟩
    · obtain ⟨i, hp, hx⟩ := place_some hf
      have hxn := (find_mem hf).2
      have C := Lib.hid (there_some nm w i hn ho' hp h)
      have CF := Lib.hid (refFails_is w ho' h)
      rw [Option.isNone_some, if_neg (by decide), stroke_late ho']
      rcases hfa : (failing s).1 with _ | _
      · have hfl := failing_files hfa
        rw [hfa] at CF
        generalize failing s = sf at *
        clear h hf hp hfa ho ho'
        rw [if_neg (by decide)]
        go_enter Tryz.func24, Tryz.ntmps24
        go_wp2_with fail
        go_at_call 58
        refine C.out.mono ?_
        rintro e w' ⟨rfl, rfl⟩
        clear C
        go_wp2_with fail
        go_at_call 62
        refine CF.out.mono ?_
        rintro e w1 ⟨rfl, hT1, F1, hF1, v1, kv1, z1, fl1, h1⟩
        clear CF
        have hx1 := hx
        rw [← hfl] at hx1
        have CW := Lib.hid ((refWithout_is i x w1 hx1 h1).mono fun e w' ⟨he, hw⟩ => And.intro he (RWent.trans hT1 hF1 hw))
        rw [hfl, hxn] at CW
        clear h1 hT1 hF1 hx hx1
        go_wp2_with fail
        go_at_call 63
        refine CW.out.mono ?_
        rintro e w2 ⟨rfl, HW⟩
        clear CW
        go_wp2
        go_ret
        exact ⟨rfl, HW⟩
      · rw [hfa] at CF
        generalize failing s = sf at *
        clear h hf hp hfa ho ho' hx
        rw [if_pos rfl]
        go_enter Tryz.func24, Tryz.ntmps24
        go_wp2_with fail
        go_at_call 58
        refine C.out.mono ?_
        rintro e w' ⟨rfl, rfl⟩
        clear C
        go_wp2_with fail
        go_at_call 62
        refine CF.out.mono ?_
        rintro e w1 ⟨rfl, HW⟩
        clear CF
        go_wp2
        go_ret
        exact ⟨rfl, HW⟩
end
end Go.Proofs.YtlbhegicapggeaaGreat.fil
