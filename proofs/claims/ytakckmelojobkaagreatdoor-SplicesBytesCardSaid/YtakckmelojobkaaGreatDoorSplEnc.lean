/- Splices: Encode, of the program; the law's Much. -/
import Derived.Test.YtakckmelojobkaaGreatDoorSplPut
import Derived.Test.YtakckmelojobkaaGreatDoorSplInv
namespace Go.Proofs.YtakckmelojobkaaGreatDoor.sps
open Go.RowKit Go.Lib pce
set_option linter.unusedVariables false
set_option linter.unusedSimpArgs false
set_option linter.unnecessarySimpa false
set_option linter.unusedSectionVars false

/-- Yes; or no, and they are few. -/
def MuchSays (ts : List Ct) (many : Nat) (w : World) (e : Ending) (w' : World) : Prop :=
  (e = .returned (.bool true) ∨ (e = .returned (.bool false) ∧ ts.length ≤ many ∧ ∀ t ∈ ts, t.ins.length ≤ 2100 ∧ tot t.ins ≤ 20000)) ∧ w = w'
set_option maxHeartbeats 2000000 in
set_option maxRecDepth 100000 in
theorem much_is (w : World) (F : Nat → Prop) (A : Option Addr) (n c : Nat) (ts : List Ct) (many : Nat) (hmany : many ≤ 1000) (hn : n = ts.length) (hb : n ≤ maxLen) (h : Cuts w F A ts) :
    Calls Tryz.prog 4 #[.slice A n c, .int .i64 many] w (MuchSays ts many w) := by
  have HC := Lib.hid h
  have HN := Lib.hid hn
  unfold maxLen at hb
  clear h hn
  go_enter Tryz.func4, Tryz.ntmps4
  go_wp2
  go_loopg [5, 6] n (fun g s5 s6 wr => ∃ (k : Nat) (r : Int), k ≤ n ∧ n - k ≤ g ∧ s6 = .int .i64 k ∧ wr = w ∧ s5 = .int .i64 r ∧ ∀ t ∈ ts.take k, t.ins.length ≤ 2100 ∧ tot t.ins ≤ 20000)
  case atStart => exact ⟨0, 0, Nat.zero_le _, by omega, rfl, rfl, rfl, by simp⟩
  case round =>
    obtain ⟨k, r, hk, hg, rfl, hwr, rfl, heq⟩ := hrel
    have hwr := hwr.symm
    subst hwr
    have HE := Lib.hid heq
    clear heq
    by_cases hlt : k < n
    · obtain ⟨t, ht⟩ : ∃ t, ts[k]? = some t := ⟨_, List.getElem?_eq_getElem (by rw [← HN.out]; exact hlt)⟩
      have HT := Lib.hid ht
      obtain ⟨b, off, rfl, _, _, g2⟩ := HC.out.at ht
      have hok := HC.out.each t (List.mem_of_getElem? ht)
      have hfew := hok.few
      unfold maxLen at hfew
      have HOK := Lib.hid hok
      obtain ⟨z, hz⟩ : ∃ z, t.ins.length = z := ⟨_, rfl⟩
      have HZ := Lib.hid hz
      rw [hz] at g2 hfew
      clear ht hok hz
      have C := Lib.hid (fun (W : World) (hW : SRd W W.heap.size t.A t.ins) => great t.A t.c W.heap.size z 2100 20000 t.ins W HZ.out.symm (by omega) (by omega) (by omega) HOK.out.size hW)
      go_wp2_with fail
      go_at_call 11
      refine (C.out _ HOK.out.lst.srd).mono ?_
      rintro e w' ⟨(rfl | ⟨rfl, g3, g4⟩), rfl⟩
      · go_wp2
        go_ret
        exact ⟨.inl rfl, rfl⟩
      · have G := Lib.hid (And.intro g3 g4)
        have hz2 : z ≤ 2100 := by rw [← HZ.out]; exact g3
        clear g3 g4
        go_wp2
        go_roundg (n - (k + 1))
        case measure => omega
        case rel =>
          refine ⟨k + 1, _, by omega, by omega, by go_num, rfl, rfl, fun t' ht' => ?_⟩
          obtain ⟨hkl, hkt⟩ := List.getElem?_eq_some_iff.1 HT.out
          rw [List.take_succ_eq_append_getElem hkl, List.mem_append, hkt] at ht'
          rcases ht' with ht' | ht'
          · exact HE.out t' ht'
          · rw [List.mem_singleton.1 ht']; exact G.out
    · have hkn : k = n := by omega
      subst hkn
      by_cases h60 : many < k
      · go_wp2
        go_ret
        exact ⟨.inl rfl, rfl⟩
      · by_cases h4 : r > 5000
        · go_wp2
          go_ret
          exact ⟨.inl rfl, rfl⟩
        · go_wp2
          go_ret
          refine ⟨.inr ⟨rfl, by rw [← HN.out]; omega, fun t ht => HE.out t (by rw [HN.out, List.take_length]; exact ht)⟩, rfl⟩

/-- Splices that came in, or lie where they were put. -/
theorem cuts_one' (w : World) (F : Nat → Prop) (t : Ct) (ht : CtOk w F t) : Cuts (w.alloc (.cells #[.int .i64 t.a, .int .i64 t.d, .slice t.A t.ins.length t.c] 24)) (fun _ => True) (some ⟨w.heap.size, 0, none⟩) [t] := by
  have hA := At.new w 24 #[.int .i64 t.a, .int .i64 t.d, .slice t.A t.ins.length t.c]
  refine ⟨fun _ => ⟨w.heap.size, 0, rfl, trivial, hA.lt, fun j u hj => ?_⟩, fun t' ht' => ?_⟩
  · rw [Nat.zero_add, hA.cell, ← hj]
    simp [flat, Ct.cells]
  · rw [List.mem_singleton.1 ht']
    have h := ht.keep (w' := w.alloc (.cells #[.int .i64 t.a, .int .i64 t.d, .slice t.A t.ins.length t.c] 24)) (fun b _ hb => Below.heap_alloc _ _ _ hb) (by simp)
    exact ⟨h.a1, h.a2, h.d1, h.d2, h.lst.any, h.size, h.few⟩

/-- What Encode tells: an error, and nothing; or the bytes. -/
def EncSays (a d : Int) (ins : List ByteArray) (k : Int) (w : World) (e : Ending) (w' : World) : Prop := Below w.heap.size w w' ∧
  ((¬ k = 0 ∧ e = .returned (.tuple #[.string ⟨#[]⟩, .int .i64 k])) ∨ (k = 0 ∧ e = .returned (.tuple #[.string (B (enc a.toNat d.toNat (num.bytesOf ins))), .int .i64 0])))
theorem cat_B (x y : List UInt8) : B x ++ B y = B (x ++ y) := num.B_append x y
set_option maxHeartbeats 4000000 in
set_option maxRecDepth 100000 in
theorem encode_is (a d : Int) (A : Option Addr) (n c : Nat) (ins : List ByteArray) (w : World) (k : Int) (hk : chkS a d ins = k) (ha1 : -9223372036854775808 ≤ a) (ha2 : a ≤ 9223372036854775807) (hd1 : -9223372036854775808 ≤ d) (hd2 : d ≤ 9223372036854775807)
    (hn : n = ins.length) (hb : n ≤ 100000) (ht : tot ins ≤ 1000000) (h : SRd w w.heap.size A ins) (hV : VarT w.heap.size w) :
    Calls Tryz.prog 5 #[.agg #[.int .i64 a, .int .i64 d, .slice A n c]] w (EncSays a d ins k w) := by
  obtain ⟨wb, hwb⟩ : ∃ wb, w.alloc (.cells #[.int .i64 a, .int .i64 d, .slice A n c] 24) = wb := ⟨_, rfl⟩
  have hX0 : Below w.heap.size w wb ∧ At wb w.heap.size 24 #[.int .i64 a, .int .i64 d, .slice A n c] ∧ w.heap.size + 1 ≤ wb.heap.size := by
    subst hwb
    exact ⟨(Below.refl _ _).alloc (Nat.le_refl _) _, At.new _ _ _, by simp⟩
  have C1 := Lib.hid (check_is a d A n c ins wb k hk ha1 ha2 hd1 hd2 hn hb ((h.below hX0.1).more hX0.1.size))
  obtain ⟨b0, b1, b2⟩ := three_at hX0.2.1
  have HX := Lib.hid (fun (W : World) (hB : Below wb.heap.size wb W) => And.intro (hX0.1.trans (hB.mono hX0.1.size)) (hX0.2.1.same (hB.block _ hX0.2.1.lt)))
  have HN := Lib.hid hn
  have HT := Lib.hid ht
  have HS := Lib.hid h
  have HV := Lib.hid hV
  have HK := Lib.hid hk
  clear hn ht h hV hX0 hk
  by_cases hk0 : k = 0
  · subst hk0
    obtain ⟨g1, g2, hfi⟩ := chkS_zero.1 HK.out
    obtain ⟨x, rfl⟩ : ∃ x : Nat, a = x := ⟨a.toNat, by omega⟩
    obtain ⟨y, rfl⟩ : ∃ y : Nat, d = y := ⟨d.toNat, by omega⟩
    have HLX : Hid ((num.putN x).length ≤ 20) := Lib.hid (num.putN_len20 (by unfold num.MX; omega))
    have HLY : Hid ((num.putN y).length ≤ 20) := Lib.hid (num.putN_len20 (by unfold num.MX; omega))
    have HLZ : Hid ((num.putL (num.bytesOf ins)).length ≤ 4000000) := Lib.hid (by
      have h1 := num.putK_len ins.length ins ins.length (by unfold num.MX; have := HN.out; omega) HT.out
      rw [num.putK_all, List.take_length] at h1
      have := HT.out; have := HN.out; omega)
    have KP := Lib.hid (fun (z : Nat) (hz : (z : Int) ≤ 9223372036854775807) (W : World) (hW : More wb.heap.size wb W) => (put_is z W (by unfold num.MX; omega) ((HV.out.below (HX.out W hW).1).more (HX.out W hW).1.size)).mono (fun e w' h => (And.intro h.1 (show More wb.heap.size wb w' from Below.trans hW (h.2.mono (Below.size hW)))))) 
    have KL := Lib.hid (fun (W : World) (hW : More wb.heap.size wb W) => (putList_is A c n ins W HN.out hb HT.out ((HS.out.below (HX.out W hW).1).more (HX.out W hW).1.size) ((HV.out.below (HX.out W hW).1).more (HX.out W hW).1.size)).mono (fun e w' h => (And.intro h.1 (show More wb.heap.size wb w' from Below.trans hW (h.2.mono (Below.size hW))))))
    have HXX : Hid ((B (num.putN x) ++ B (num.putN y)) ++ B (num.putL (num.bytesOf ins)) = B (enc x y (num.bytesOf ins))) := Lib.hid (by
      rw [cat_B, cat_B]; unfold enc; rw [List.append_assoc])
    go_enter Tryz.func5, Tryz.ntmps5
    go_wp2_with fail
    go_at_call 12
    refine C1.out.mono ?_
    rintro e w1 ⟨rfl, hB1⟩
    have hX1 := HX.out w1 hB1
    obtain ⟨d0, d1, d2⟩ := three_at hX1.2
    have M1 : More wb.heap.size wb w1 := hB1
    have M1' : More wb.heap.size wb w1.drew := below_drew hB1
    have SK : Hid (∀ W, More wb.heap.size wb W → W.cell? ⟨w.heap.size, 0, none⟩ = some (.int .i64 (x : Int)) ∧ W.cell? ⟨w.heap.size, 1, none⟩ = some (.int .i64 (y : Int)) ∧ W.cell? ⟨w.heap.size, 2, none⟩ = some (.slice A n c) ∧ More wb.heap.size wb W) := Lib.hid (fun W hW => ⟨(HX.out W hW).2.cell 0, (HX.out W hW).2.cell 1, (HX.out W hW).2.cell 2, hW⟩)
    have T1 := SK.out _ M1
    have T1' := SK.out _ M1'
    obtain ⟨X, hX⟩ : ∃ X, num.putN x = X := ⟨_, rfl⟩
    obtain ⟨Y, hY⟩ : ∃ Y, num.putN y = Y := ⟨_, rfl⟩
    obtain ⟨Z, hZ⟩ : ∃ Z, num.putL (num.bytesOf ins) = Z := ⟨_, rfl⟩
    have KX := Lib.hid (KP.out x (by omega))
    have KY := Lib.hid (KP.out y (by omega))
    rw [hX] at KX HLX HXX
    rw [hY] at KY HLY HXX
    rw [hZ] at KL HLZ HXX
    have hs1 : X.length + Y.length ≤ 9223372036854775807 := by have := HLX.out; have := HLY.out; omega
    have hs2 : X.length + Y.length + Z.length ≤ 9223372036854775807 := by have := HLX.out; have := HLY.out; have := HLZ.out; omega
    clear hB1 hX1 KP hX hY hZ HLX HLY HLZ
    go_wp2_with fail
    refine wp_region_noPanic ?_
    refine wp_region_held_drew (S := fun W => W.cell? ⟨w.heap.size, 0, none⟩ = some (.int .i64 (x : Int)) ∧ W.cell? ⟨w.heap.size, 1, none⟩ = some (.int .i64 (y : Int)) ∧ W.cell? ⟨w.heap.size, 2, none⟩ = some (.slice A n c) ∧ More wb.heap.size wb W) (by kernel_rfl) (by (try dsimp only); first | assumption | exact ⟨by assumption, by assumption, by assumption, by assumption⟩) (fun hHeld => ?_)
    refine held.take (i := 0) (v := .pointer (some ⟨w.heap.size, 0, none⟩)) rfl (by kernel_rfl) (by kernel_rfl) (by kernel_rfl) (fun _ _ _ h => h) (Or.inl ⟨by rfl, fun W hW => by (try dsimp only at hW); go_simp⟩) (by assumption) ?_
    (try simp only [Act.put, List.setIfInBounds_toArray, List.set_cons_zero, List.set_cons_succ])
    refine held.take (i := 1) (v := .int .i64 (x : Int)) rfl (by kernel_rfl) (by kernel_rfl) (by kernel_rfl) (fun _ _ _ h => h) (Or.inl ⟨by rfl, fun W hW => by (try dsimp only at hW); go_simp⟩) (by assumption) ?_
    (try simp only [Act.put, List.setIfInBounds_toArray, List.set_cons_zero, List.set_cons_succ])
    refine held.take (i := 3) (v := .pointer (some ⟨w.heap.size, 1, none⟩)) rfl (by kernel_rfl) (by kernel_rfl) (by kernel_rfl) (fun _ _ _ h => h) (Or.inl ⟨by rfl, fun W hW => by (try dsimp only at hW); go_simp⟩) (by assumption) ?_
    (try simp only [Act.put, List.setIfInBounds_toArray, List.set_cons_zero, List.set_cons_succ])
    refine held.take (i := 4) (v := .int .i64 (y : Int)) rfl (by kernel_rfl) (by kernel_rfl) (by kernel_rfl) (fun _ _ _ h => h) (Or.inl ⟨by rfl, fun W hW => by (try dsimp only at hW); go_simp⟩) (by assumption) ?_
    (try simp only [Act.put, List.setIfInBounds_toArray, List.set_cons_zero, List.set_cons_succ])
    refine held.take (i := 7) (v := .pointer (some ⟨w.heap.size, 2, none⟩)) rfl (by kernel_rfl) (by kernel_rfl) (by kernel_rfl) (fun _ _ _ h => h) (Or.inl ⟨by rfl, fun W hW => by (try dsimp only at hW); go_simp⟩) (by assumption) ?_
    (try simp only [Act.put, List.setIfInBounds_toArray, List.set_cons_zero, List.set_cons_succ])
    refine held.take (i := 8) (v := .slice A n c) rfl (by kernel_rfl) (by kernel_rfl) (by kernel_rfl) (fun _ _ _ h => h) (Or.inl ⟨by rfl, fun W hW => by (try dsimp only at hW); go_simp⟩) (by assumption) ?_
    (try simp only [Act.put, List.setIfInBounds_toArray, List.set_cons_zero, List.set_cons_succ])
    refine held.only (i := 2) (by kernel_rfl) rfl (fun K hK => ?_)
    go_simp
    go_at_call 13
    refine (KX.out _ (held4' (by assumption))).mono ?_
    rintro e w2 ⟨rfl, M2⟩
    have T2 := SK.out w2 M2
    refine hK.out _ _ (by (try dsimp only); first | assumption | exact ⟨by assumption, by assumption, by assumption, by assumption⟩) (fun hHeld => ?_)
    clear hK K
    (try simp only [Act.put, List.setIfInBounds_toArray, List.set_cons_zero, List.set_cons_succ])
    refine held.only (i := 5) (by kernel_rfl) rfl (fun K hK => ?_)
    go_simp
    go_at_call 13
    refine (KY.out _ (held4' (by assumption))).mono ?_
    rintro e w3 ⟨rfl, M3⟩
    have T3 := SK.out w3 M3
    refine hK.out _ _ (by (try dsimp only); first | assumption | exact ⟨by assumption, by assumption, by assumption, by assumption⟩) (fun hHeld => ?_)
    clear hK K
    (try simp only [Act.put, List.setIfInBounds_toArray, List.set_cons_zero, List.set_cons_succ])
    refine held.take (i := 6) (v := .string (B X ++ B Y)) rfl (by kernel_rfl) (by kernel_rfl) (by kernel_rfl) (fun _ _ _ h => h) (Or.inl ⟨by rfl, fun W hW => by (try dsimp only at hW); go_simp⟩) (by assumption) ?_
    (try simp only [Act.put, List.setIfInBounds_toArray, List.set_cons_zero, List.set_cons_succ])
    refine held.only (i := 9) (by kernel_rfl) rfl (fun K hK => ?_)
    go_simp
    go_at_call 14
    refine (KL.out _ (held4' (by assumption))).mono ?_
    rintro e w4 ⟨rfl, M4⟩
    have T4 := SK.out w4 M4
    refine hK.out _ _ (by (try dsimp only); first | assumption | exact ⟨by assumption, by assumption, by assumption, by assumption⟩) (fun hHeld => ?_)
    clear hK K
    (try simp only [Act.put, List.setIfInBounds_toArray, List.set_cons_zero, List.set_cons_succ])
    refine held.take (i := 10) (v := .string (B X ++ B Y ++ B Z)) rfl (by kernel_rfl) (by kernel_rfl) (by kernel_rfl) (fun _ _ _ h => h) (Or.inl ⟨by rfl, fun W hW => by (try dsimp only at hW); go_simp⟩) (by assumption) ?_
    (try simp only [Act.put, List.setIfInBounds_toArray, List.set_cons_zero, List.set_cons_succ])
    refine held.take (i := 11) (v := .string (B X ++ B Y ++ B Z)) rfl (by kernel_rfl) (by kernel_rfl) (by kernel_rfl) (fun _ _ _ h => h) (Or.inl ⟨by rfl, fun W hW => by (try dsimp only at hW); go_simp⟩) (by assumption) ?_
    (try simp only [Act.put, List.setIfInBounds_toArray, List.set_cons_zero, List.set_cons_succ])
    refine held.take (i := 12) (v := .int .i64 0) rfl (by kernel_rfl) (by kernel_rfl) (by kernel_rfl) (fun _ _ _ h => h) (Or.inl ⟨by rfl, fun W hW => by (try dsimp only at hW); go_simp⟩) (by assumption) ?_
    (try simp only [Act.put, List.setIfInBounds_toArray, List.set_cons_zero, List.set_cons_succ])
    refine wpAnyH_done (by kernel_rfl) ?_ _
    refine NoPanic.normal ?_
    have HB4 := Lib.hid (HX.out w4 M4).1
    clear T1 T1' T2 T3 T4 M1 M1' M2 M3 M4 hHeld SK KX KY KL
    go_wp2
    go_ret2
    refine ⟨HB4.out, .inr ⟨rfl, ?_⟩⟩
    rw [HXX.out]; rfl
  · have hqb : (k == 0) = false := by simpa using hk0
    have hqn : (k != 0) = true := by rw [bne, hqb]; rfl
    have HK0 := Lib.hid hk0
    clear hk0
    go_enter Tryz.func5, Tryz.ntmps5
    go_wp2_with fail
    go_at_call 12
    refine C1.out.mono ?_
    rintro e w1 ⟨rfl, hB1⟩
    have HB := Lib.hid (HX.out w1 hB1).1
    clear hB1
    go_wp2
    go_ret2
    exact ⟨HB.out, .inl ⟨HK0.out, rfl⟩⟩
end Go.Proofs.YtakckmelojobkaaGreatDoor.sps
