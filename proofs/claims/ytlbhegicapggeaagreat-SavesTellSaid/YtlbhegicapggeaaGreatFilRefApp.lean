/- Files: the document's own system: Append. -/
import Derived.Test.YtlbhegicapggeaaGreatFilRefDo3
namespace Go.Proofs.YtlbhegicapggeaaGreat.fil
open Go.RowKit Go.Lib Go.Maps Go.WideMaps
set_option linter.unusedVariables false
set_option linter.unusedSimpArgs false
set_option linter.unnecessarySimpa false
set_option linter.unusedSectionVars false

theorem B_app (l : List UInt8) (t : ByteArray) : B l ++ t = B (l ++ t.data.toList) := by
  apply ByteArray.ext
  simp [B, ByteArray.data_append]
theorem errAppend_pos {s : St} {nm : List UInt8} {m : Nat} (hn : isNm nm = true) (h : ((find s.files nm).isNone = true ∧ 32 ≤ s.files.length) ∨ s.cap < total s.files + m) : errAppend s nm m = 50 := by
  unfold errAppend
  rw [if_neg (by rw [hn]; decide), if_pos]
  rcases h with ⟨h1, h2⟩ | h
  · simp [h1, h2]
  · simp [h]
theorem errAppend_zero {s : St} {nm : List UInt8} {m : Nat} (hn : isNm nm = true) (h : (find s.files nm).isNone = true → s.files.length < 32) (h2 : total s.files + m ≤ s.cap) : errAppend s nm m = 0 := by
  unfold errAppend
  rw [if_neg (by rw [hn]; decide), if_neg]
  cases hf : (find s.files nm).isNone
  · simp; omega
  · have := h hf
    simp; omega

section
variable {w w' : World} {rb : Nat} {s s' : St} {F F' : Nat → Prop}
set_option maxHeartbeats 2000000 in
set_option maxRecDepth 100000 in
theorem refAppend_is (nm t : ByteArray) (w : World) (hn : nm.size ≤ maxLen) (ht : t.size ≤ 1000000) (h : RIs w rb s F) :
    Calls Tryz.prog 34 #[.pointer (some ⟨rb, 0, none⟩), .string nm, .string t] w fun e w' => e = .returned (.int .i64 (sAppend s nm.data.toList t.data.toList).1) ∧ RWent F rb (sAppend s nm.data.toList t.data.toList).2 w w' := by
  have HS := Lib.hid h
  obtain ⟨v, kv, z, fl, h⟩ := h
  have hFl := h.lt
  obtain ⟨c0, c1, c2, c3, c4, c5, c6⟩ := h.cells
  have CN := Lib.hid (fun W => refName_is nm W hn)
  unfold sAppend
  by_cases ho : s.off = true
  · unfold stroke
    rw [if_pos ho]
    rw [ho] at c2
    clear h CN
    go_enter Tryz.func34, Tryz.ntmps34
    go_wp2
    go_ret
    exact ⟨rfl, RWent.refl HS.out⟩
  · have ho' : s.off = false := by simpa using ho
    rw [ho'] at c2
    rcases hbn : isNm nm.data.toList with _ | _
    · rw [hbn] at CN
      have he : errAppend s nm.data.toList t.data.toList.length = 2 := by unfold errAppend; rw [if_pos hbn]
      rw [he]
      unfold stroke
      rw [if_neg ho, if_neg (by decide)]
      clear h
      go_enter Tryz.func34, Tryz.ntmps34
      go_wp2_with (go_at_call 20; refine (CN.out _).mono ?_; rintro e w' ⟨rfl, rfl⟩)
      go_ret
      exact ⟨rfl, RWent.refl HS.out⟩
    · rw [hbn] at CN
      have CP := place_is nm w hn h
      have CS : Hid (∀ k, Calls Tryz.prog 52 #[.pointer (some ⟨rb, 0, none⟩)] (w.drewN k) fun e w' => e = .returned (.int .i64 (total s.files)) ∧ w' = w.drewN k) := Lib.hid (fun k => (refSize_is (w.drewN k) (h.same (fun _ _ => rfl) (Nat.le_refl _))).mono fun e w' ⟨he, hw⟩ => ⟨he, hw.symm⟩)
      have hroom := h.ok.room
      have hcap2 := h.ok.cap2
      have htl : t.data.toList.length = t.size := by rw [Array.length_toList]; rfl
      have hwt : IntKind.i64.wrap ((total s.files : Int) + (t.size : Int)) = (total s.files : Int) + (t.size : Int) := IntWalk.i64_in _ (by omega)
      have HOK := Lib.hid h.ok
      have HH := Lib.hid h
      unfold placeN at CP
      rcases hf : find s.files nm.data.toList with _ | x
      · rw [place_none hf] at CP
        have CP := Lib.hid CP
        obtain ⟨VA, vc, rfl⟩ : ∃ A cc, v = .slice A s.files.length cc := by
          rcases h.row.2 with ⟨hv, h0⟩ | ⟨b, cap, _, hv, _⟩
          · exact ⟨none, 0, by rw [hv, h0]⟩
          · exact ⟨_, _, hv⟩
        by_cases h32 : 32 ≤ s.files.length
        · have he : errAppend s nm.data.toList t.data.toList.length = 50 := errAppend_pos hbn (.inl ⟨by rw [hf]; rfl, h32⟩)
          rw [he]
          unfold stroke
          rw [if_neg ho, if_neg (by decide)]
          clear h hf ho ho' hbn htl
          generalize s.files.length = n at *
          have hd : decide ((32 : Int) ≤ (n : Int)) = true := decide_eq_true (by omega)
          go_enter Tryz.func34, Tryz.ntmps34
          go_wp2_with (first | (go_at_call 20; refine (CN.out _).mono ?_; rintro e w' ⟨rfl, rfl⟩) | (go_at_call 23; refine CP.out.mono ?_; rintro e w' ⟨rfl, rfl⟩))
          go_quiet (fail)
          go_wp2
          go_ret
          exact ⟨rfl, (RWent.refl HS.out).drewN _⟩
        · by_cases hbig : s.cap < total s.files + t.size
          · have he : errAppend s nm.data.toList t.data.toList.length = 50 := errAppend_pos hbn (.inr (by rw [htl]; exact hbig))
            rw [he]
            unfold stroke
            rw [if_neg ho, if_neg (by decide)]
            clear h hf ho ho' hbn htl
            generalize s.files.length = n at *
            generalize total s.files = T at *
            have hd : decide ((32 : Int) ≤ (n : Int)) = false := decide_eq_false (by omega)
            have hd2 : decide ((s.cap : Int) < (T : Int) + (t.size : Int)) = true := decide_eq_true (by omega)
            go_enter Tryz.func34, Tryz.ntmps34
            go_wp2_with (first | (go_at_call 20; refine (CN.out _).mono ?_; rintro e w' ⟨rfl, rfl⟩) | (go_at_call 23; refine CP.out.mono ?_; rintro e w' ⟨rfl, rfl⟩))
            go_quiet ((go_at_call 52; refine Calls.quiet_of_same (CS.out _)))
            go_wp2
            go_ret
            exact ⟨rfl, (RWent.refl HS.out).drewN _⟩
          · have he : errAppend s nm.data.toList t.data.toList.length = 0 := errAppend_zero hbn (fun _ => by omega) (by rw [htl]; omega)
            have hok := okf_append h.ok he
            have hoknew : Hid (Ok { s with files := ins s.files ⟨nm.data.toList, [], 0⟩ }) := Lib.hid (ok_files h.ok (okf_new h.ok he hf))
            have hda : doAppend s nm.data.toList t.data.toList = ins s.files ⟨nm.data.toList, t.data.toList, 0⟩ := by unfold doAppend; rw [hf]
            rw [he]
            generalize hres : stroke s 0 true (doAppend s nm.data.toList t.data.toList) = res
            have HRES := Lib.hid hres
            clear hres
            have hd : decide ((32 : Int) ≤ (s.files.length : Int)) = false := decide_eq_false (by omega)
            have hd2 : decide ((s.cap : Int) < (total s.files : Int) + (t.size : Int)) = false := decide_eq_false (by omega)
            have HO := Lib.hid ho'
            have HDA := Lib.hid hda
            have HOK2 := Lib.hid hok
            clear h hf ho ho' hbn htl hda hok he
            generalize s.files.length = n at *
            generalize total s.files = T at *
            go_enter Tryz.func34, Tryz.ntmps34
            go_wp2_with (first | (go_at_call 20; refine (CN.out _).mono ?_; rintro e w' ⟨rfl, rfl⟩) | (go_at_call 23; refine CP.out.mono ?_; rintro e w' ⟨rfl, rfl⟩))
            go_quiet ((go_at_call 52; refine Calls.quiet_of_same (CS.out _)))
            clear CS CP CN c0 c1 c2 c3 c4 c5 c6
            have CW := refWith_is ⟨nm.data.toList, [], 0⟩ (w.drewN nq) hoknew.out (HH.out.same (fun _ _ => rfl) (Nat.le_refl _))
            rw [show B nm.data.toList = nm from B_list nm] at CW
            have CW := Lib.hid CW
            go_wp2_with fail
            go_at_call 72
            refine CW.out.mono ?_
            rintro e w1 ⟨rfl, hT1, F1, hF1, v1, kv1, z1, fl1, h1⟩
            clear CW
            have hfn := find_ins_same HOK.out.rise (⟨nm.data.toList, [], 0⟩ : Fl)
            obtain ⟨j, hpj, hx1⟩ := place_some hfn
            have CP := place_is nm w1 hn h1
            unfold placeN at CP
            rw [show place (ins s.files ⟨nm.data.toList, [], 0⟩) nm.data.toList = some j from hpj] at CP
            have CP := Lib.hid CP
            go_wp2_with fail
            go_at_call 23
            refine CP.out.mono ?_
            rintro e w' ⟨rfl, rfl⟩
            clear CP
            have ho' := HO.out
            have hok := HOK2.out
            obtain ⟨s1, hs1⟩ : ∃ s1 : St, s1 = { s with files := ins s.files ⟨nm.data.toList, [], 0⟩ } := ⟨_, rfl⟩
            obtain ⟨x1, hx1e⟩ : ∃ x1 : Fl, x1 = ⟨nm.data.toList, [], 0⟩ := ⟨_, rfl⟩
            have hx1n : x1.name = nm.data.toList := by rw [hx1e]
            have hE : ({ s1 with files := ins s1.files ⟨nm.data.toList, x1.bytes ++ t.data.toList, x1.plat⟩ } : St) = { s with files := doAppend s nm.data.toList t.data.toList } := by
              rw [hs1, hx1e, HDA.out]
              simp only [List.nil_append]
              rw [ins_ins HOK.out.rise ⟨nm.data.toList, [], 0⟩ ⟨nm.data.toList, t.data.toList, 0⟩ rfl]
            have hT1 : Turned F w w1 := ⟨hT1.os, hT1.tape, hT1.output, hT1.size, hT1.block⟩
            have hF1 : ∀ b, F1 b → F b ∨ w.heap.size ≤ b := hF1
            rw [← hs1] at h1
            have hx1 : s1.files[j]? = some x1 := by rw [hs1, hx1e]; exact hx1
            clear hpj hfn hs1 hx1e
            obtain ⟨g, off, c, hv, h0, hi, hlc, hc9, hgl, hFg, q0, q1, q2, fr⟩ := h1.at hx1
            have c4 := h1.cells.2.2.2.2.1
            rw [hv] at c4
            have r1 : w1.frozen? ⟨g, off + j * 3 + 1, none⟩ = false := by rw [Nat.add_assoc]; exact fr _
            have HR2 : RFz true (w1.setCell ⟨g, off + j * 3 + 1, none⟩ (.string (B x1.bytes ++ t))) rb { s with files := doAppend s nm.data.toList t.data.toList } v1 kv1 z1 fl1 F1 := by
              rw [← hE]
              rw [hv] at h1 ⊢
              refine h1.rows ((Turned.refl (fun b => (Value.slice (some ⟨g, off, none⟩) s1.files.length c).ownBlock = some b) w1).setCell (p := ⟨g, off + j * 3 + 1, none⟩) (.inl rfl) _) ?_ (by rw [hE]; exact ok_files HOK.out hok)
              rw [← set_ins h1.ok.rise hx1 hx1n.symm]
              exact own_put h1.row h0 hx1 (by omega) (by unfold fcells; simp only [List.set_cons_succ, List.set_cons_zero]; rw [B_app, hx1n])
            have CF := Lib.hid ((refFails_is ((w1.setCell ⟨g, off + j * 3 + 1, none⟩ (.string (B x1.bytes ++ t))).drew) (s := { s with files := doAppend s nm.data.toList t.data.toList }) ho' (HR2.same (fun _ _ => rfl) (Nat.le_refl _))).mono fun e w' ⟨he, hw⟩ => And.intro he (RWent.trans ((hT1.setCell (p := ⟨g, off + j * 3 + 1, none⟩) (hF1 g hFg) _).drew) hF1 hw))
            have hxb : (B x1.bytes).size ≤ 1048576 := by rw [B_size]; have := total_mem (List.mem_of_getElem? hx1); have := h1.ok.room; have := h1.ok.cap2; omega
            clear h1 HR2 hT1 hF1 hx1 fr hv h0 hgl hFg hE ho' hok
            generalize B x1.bytes = xb at *
            generalize s1.files.length = n1 at *
            generalize hsf : failing { s with files := doAppend s nm.data.toList t.data.toList } = sf at *
            have HSF := Lib.hid hsf
            clear hsf
            go_wp2
            go_region
            all_goals
              go_wp2_with fail
              go_at_call 62
              refine CF.out.mono ?_
              rintro e w3 ⟨rfl, HW⟩
              clear CF
              rcases hfa : sf.1 with _ | _
              · have e := HRES.out
                rw [stroke_early HO.out, HSF.out, hfa, if_neg (by decide)] at e
                subst e
                go_wp2
                go_ret
                exact ⟨rfl, HW⟩
              · have e := HRES.out
                rw [stroke_early HO.out, HSF.out, hfa, if_pos rfl] at e
                subst e
                go_wp2
                go_ret
                exact ⟨rfl, HW⟩
      · obtain ⟨i, hp, hx⟩ := place_some hf
        have hxn := (find_mem hf).2
        rw [hp] at CP
        have CP := Lib.hid CP
        have hineg : decide ((i : Int) < 0) = false := decide_eq_false (by omega)
        by_cases hbig : s.cap < total s.files + t.size
        · have he : errAppend s nm.data.toList t.data.toList.length = 50 := errAppend_pos hbn (.inr (by rw [htl]; exact hbig))
          rw [he]
          unfold stroke
          rw [if_neg ho, if_neg (by decide)]
          clear h hf ho ho' hbn htl hx hp
          generalize s.files.length = n at *
          generalize total s.files = T at *
          have hd2 : decide ((s.cap : Int) < (T : Int) + (t.size : Int)) = true := decide_eq_true (by omega)
          go_enter Tryz.func34, Tryz.ntmps34
          go_wp2_with (first | (go_at_call 20; refine (CN.out _).mono ?_; rintro e w' ⟨rfl, rfl⟩) | (go_at_call 23; refine CP.out.mono ?_; rintro e w' ⟨rfl, rfl⟩))
          go_quiet ((go_at_call 52; refine Calls.quiet_of_same (CS.out _)))
          go_wp2
          go_ret
          exact ⟨rfl, (RWent.refl HS.out).drewN _⟩
        · have he : errAppend s nm.data.toList t.data.toList.length = 0 := errAppend_zero hbn (fun e => by rw [hf] at e; cases e) (by rw [htl]; omega)
          have hok := okf_append h.ok he
          have hda : doAppend s nm.data.toList t.data.toList = ins s.files ⟨nm.data.toList, x.bytes ++ t.data.toList, x.plat⟩ := by unfold doAppend; rw [hf]
          rw [he]
          generalize hres : stroke s 0 true (doAppend s nm.data.toList t.data.toList) = res
          have HRES := Lib.hid hres
          clear hres
          have hd2 : decide ((s.cap : Int) < (total s.files : Int) + (t.size : Int)) = false := decide_eq_false (by omega)
          have HO := Lib.hid ho'
          have HDA := Lib.hid hda
          have HOK2 := Lib.hid hok
          have HX := Lib.hid hx
          clear h hf ho ho' hbn htl hda hok he hx hp
          generalize s.files.length = n at *
          generalize total s.files = T at *
          go_enter Tryz.func34, Tryz.ntmps34
          go_wp2_with (first | (go_at_call 20; refine (CN.out _).mono ?_; rintro e w' ⟨rfl, rfl⟩) | (go_at_call 23; refine CP.out.mono ?_; rintro e w' ⟨rfl, rfl⟩))
          go_quiet ((go_at_call 52; refine Calls.quiet_of_same (CS.out _)))
          clear CS CP CN c0 c1 c2 c3 c4 c5 c6
          have h1 : RFz true (w.drewN nq) rb s v kv z fl F := HH.out.same (fun _ _ => rfl) (Nat.le_refl _)
          have hT1 : Turned F w (w.drewN nq) := (Turned.refl F w).drewN _
          have hF1 : ∀ b, F b → F b ∨ w.heap.size ≤ b := fun b hb => .inl hb
          generalize w.drewN nq = w1 at *
          obtain ⟨v1, hv1⟩ : ∃ v1, v1 = v := ⟨_, rfl⟩
          obtain ⟨kv1, hkv1⟩ : ∃ v1, v1 = kv := ⟨_, rfl⟩
          obtain ⟨z1, hz1⟩ : ∃ v1, v1 = z := ⟨_, rfl⟩
          obtain ⟨fl1, hfl1⟩ : ∃ v1, v1 = fl := ⟨_, rfl⟩
          obtain ⟨F1, hFF⟩ : ∃ v1, v1 = F := ⟨_, rfl⟩
          obtain ⟨s1, hs1⟩ : ∃ v1, v1 = s := ⟨_, rfl⟩
          have ho' := HO.out
          have hok := HOK2.out
          have hx1 := HX.out
          have hE : ({ s1 with files := ins s1.files ⟨nm.data.toList, x.bytes ++ t.data.toList, x.plat⟩ } : St) = { s with files := doAppend s nm.data.toList t.data.toList } := by rw [hs1, HDA.out]
          rw [← hs1, ← hv1, ← hkv1, ← hz1, ← hfl1, ← hFF] at h1
          rw [← hs1] at hx1
          have hF1 : ∀ b, F1 b → F b ∨ w.heap.size ≤ b := by rw [hFF]; exact hF1
          clear hs1 hv1 hkv1 hz1 hfl1 hFF HX
          obtain ⟨g, off, c, hv, h0, hi, hlc, hc9, hgl, hFg, q0, q1, q2, fr⟩ := h1.at hx1
          have c4 := h1.cells.2.2.2.2.1
          rw [hv] at c4
          have r1 : w1.frozen? ⟨g, off + i * 3 + 1, none⟩ = false := by rw [Nat.add_assoc]; exact fr _
          have HR2 : RFz true (w1.setCell ⟨g, off + i * 3 + 1, none⟩ (.string (B x.bytes ++ t))) rb { s with files := doAppend s nm.data.toList t.data.toList } v1 kv1 z1 fl1 F1 := by
            rw [← hE]
            rw [hv] at h1 ⊢
            refine h1.rows ((Turned.refl (fun b => (Value.slice (some ⟨g, off, none⟩) s1.files.length c).ownBlock = some b) w1).setCell (p := ⟨g, off + i * 3 + 1, none⟩) (.inl rfl) _) ?_ (by rw [hE]; exact ok_files HOK.out hok)
            rw [← set_ins h1.ok.rise hx1 hxn.symm]
            exact own_put h1.row h0 hx1 (by omega) (by unfold fcells; simp only [List.set_cons_succ, List.set_cons_zero]; rw [B_app, hxn])
          have CF := Lib.hid ((refFails_is ((w1.setCell ⟨g, off + i * 3 + 1, none⟩ (.string (B x.bytes ++ t))).drew) (s := { s with files := doAppend s nm.data.toList t.data.toList }) ho' (HR2.same (fun _ _ => rfl) (Nat.le_refl _))).mono fun e w' ⟨he, hw⟩ => And.intro he (RWent.trans ((hT1.setCell (p := ⟨g, off + i * 3 + 1, none⟩) (hF1 g hFg) _).drew) hF1 hw))
          have hxb : (B x.bytes).size ≤ 1048576 := by rw [B_size]; have := total_mem (List.mem_of_getElem? hx1); have := h1.ok.room; have := h1.ok.cap2; omega
          clear h1 HR2 hT1 hF1 hx1 fr hv h0 hgl hFg hE ho' hok
          generalize B x.bytes = xb at *
          generalize s1.files.length = n1 at *
          generalize hsf : failing { s with files := doAppend s nm.data.toList t.data.toList } = sf at *
          have HSF := Lib.hid hsf
          clear hsf
          go_wp2
          go_region
          all_goals
            go_wp2_with fail
            go_at_call 62
            refine CF.out.mono ?_
            rintro e w3 ⟨rfl, HW⟩
            clear CF
            rcases hfa : sf.1 with _ | _
            · have e := HRES.out
              rw [stroke_early HO.out, HSF.out, hfa, if_neg (by decide)] at e
              subst e
              go_wp2
              go_ret
              exact ⟨rfl, HW⟩
            · have e := HRES.out
              rw [stroke_early HO.out, HSF.out, hfa, if_pos rfl] at e
              subst e
              go_wp2
              go_ret
              exact ⟨rfl, HW⟩
end
end Go.Proofs.YtlbhegicapggeaaGreat.fil
