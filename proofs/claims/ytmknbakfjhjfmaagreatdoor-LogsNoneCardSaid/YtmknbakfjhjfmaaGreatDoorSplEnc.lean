/- Splices: Encode, of the program; the law's Much. -/
import Derived.Test.YtmknbakfjhjfmaaGreatDoorSplPure
import Derived.Test.YtmknbakfjhjfmaaGreatDoorNumPutList
import Derived.Test.YtmknbakfjhjfmaaGreatDoorSplInv
/-! Splices: nums.Put and PutList, asked for the one table alone that they read. -/
namespace Go.Proofs.YtmknbakfjhjfmaaGreatDoor.sps
open Go.RowKit Go.Shelf Go.Lib pce num
set_option linter.unusedVariables false
set_option linter.unusedSimpArgs false
set_option linter.unnecessarySimpa false
set_option linter.unusedSectionVars false

/-- What the table of tens holds, below block n₀. -/
def VarT (n₀ : Nat) (w : World) : Prop := 1 < n₀ ∧ Lib.TabIs Tryz.prog w "internal/strconv.uint64pow10" .u64 Lib.pow10Tab
theorem VarT.below {n₀ : Nat} {w w' : World} (h : VarT n₀ w) (hB : Below n₀ w w') : VarT n₀ w' := by
  obtain ⟨h6, ht⟩ := h
  refine ⟨h6, ?_⟩
  unfold Lib.TabIs World.var? at ht ⊢
  rw [num.gTab] at ht ⊢
  simp only [Option.bind_some] at ht ⊢
  rw [hB.block 1 h6]
  exact ht
theorem VarT.more {n₀ n₁ : Nat} {w : World} (h : VarT n₀ w) (hn : n₀ ≤ n₁) : VarT n₁ w := ⟨Nat.lt_of_lt_of_le h.1 hn, h.2⟩
theorem VarT.next {w w' : World} (h : VarT w.heap.size w) (hB : Below w.heap.size w w') : VarT w'.heap.size w' := (h.below hB).more hB.size
theorem VarT.of {n₀ : Nat} {w : World} (h : num.Vars n₀ w) : VarT n₀ w := ⟨h.1.2.2, h.2.1⟩

set_option maxHeartbeats 1000000 in
set_option maxRecDepth 100000 in
theorem put_is (n : Nat) (w : World) (hn : n ≤ MX) (hV : VarT w.heap.size w) :
    Calls Tryz.prog 62 #[.int .i64 n] w fun e w' => e = .returned (.string (B (putN n))) ∧ Below w.heap.size w w' := by
  have hn' : n ≤ 9223372036854775807 := hn
  have hl : (Lib.itoa (n : Int)).length ≤ 19 := by rw [Lib.itoa_nonneg]; exact dec_len19 hn
  have C := Lib.hid (Tryz.strconv_Itoa n (by omega) (by omega) w hV.2)
  have HI := Lib.hid (itoa_put n)
  clear hn hV
  generalize Lib.itoa (n : Int) = x at hl C HI
  go_enter Tryz.func62, Tryz.ntmps62
  go_wp2_with fail
  go_at_call 87
  refine C.out.mono ?_
  rintro e w' ⟨rfl, k, os, rfl⟩
  have hB := Lib.below_grow w.heap.size w (Nat.le_refl _) k os
  go_wp2
  go_ret
  exact ⟨ret_str HI.out, hB⟩

set_option maxHeartbeats 2000000 in
set_option maxRecDepth 100000 in
theorem putList_is (A : Option Addr) (c n : Nat) (zs : List ByteArray) (w : World) (hn : n = zs.length) (hb1 : n ≤ 100000) (ht : tot zs ≤ 1000000) (h1 : SRd w w.heap.size A zs) (hV : VarT w.heap.size w) :
    Calls Tryz.prog 38 #[.slice A n c] w fun e w' => e = .returned (.string (B (putL (num.bytesOf zs)))) ∧ Below w.heap.size w w' := by
  have H1 := Lib.hid hn
  have HKL := Lib.hid (fun k => putK_len n zs k (by unfold MX; omega) ht)
  have HT := Lib.hid ht
  clear hn ht
  have hB0 : Below w.heap.size w (w.alloc (.cells #[.pointer none, .slice none 0 0] 103)) := (Below.refl _ w).alloc (Nat.le_refl _) _
  have hV0 : VarT (w.heap.size + 1) (w.alloc (.cells #[.pointer none, .slice none 0 0] 103)) := (hV.below hB0).more (by omega)
  have hb0 := Lib.fresh_isBuilder 103 5 w
  have C := Lib.hid (put_is n (w.alloc (.cells #[.pointer none, .slice none 0 0] 103)) (by unfold MX; omega) (by rw [World.size_alloc]; exact hV0))
  have hp20 := putN_len20 (n := n) (by unfold MX; omega)
  go_enter Tryz.func38, Tryz.ntmps38
  go_wp2_with fail
  go_at_call 62
  refine C.out.mono ?_
  rintro e w1 ⟨rfl, hB1⟩
  rw [World.size_alloc] at hB1
  have hb1' := builder_below hb0 (by rw [World.size_alloc]; exact hB1)
  have hBw1 := hB0.trans (hB1.mono (by omega))
  have hz1 := hBw1.size
  clear C hV0 hB1 hB0 hb0
  go_wp2_with fail
  go_at_call 63
  refine (writeString26 w.heap.size w.heap.size [] (B (putN n)) _ hb1' (by rw [B_size]; simp; omega) hz1).mono ?_
  rintro e w2 ⟨rfl, hb2, hB2⟩
  have hBw2 := hBw1.trans hB2
  have hb2' : Lib.IsBuilder 103 5 w.heap.size w.heap.size (Lib.byteCells (putK n zs 0)) w2 := .inr (by
    have := byteCells_str [] (B (putN n))
    rw [list_B, List.nil_append] at this
    rw [putK_zero, ← this]
    exact hb2)
  clear hb2 hB2 hBw1 hb1'
  go_wp2_with fail
  go_loopg [5, 12] n (fun g _ s12 wr => ∃ k : Nat, k ≤ n ∧ n - k ≤ g ∧ s12 = .int .i64 k ∧ Lib.IsBuilder 103 5 w.heap.size w.heap.size (Lib.byteCells (putK n zs k)) wr ∧ Below w.heap.size w wr)
  case atStart => exact ⟨0, Nat.zero_le _, by omega, rfl, hb2', hBw2⟩
  case round =>
    obtain ⟨k, hk, hg, rfl, hbk, hbw⟩ := hrel
    have hsz := hbw.size
    clear hb2' hBw2
    by_cases hlt : k < n
    · obtain ⟨p1, o1, rfl, _, hc1⟩ := (h1.below hbw) (by rw [← H1.out]; omega)
      have g1 : wr.cell? ⟨p1, o1 + k, none⟩ = some (.string (zs.getD k ByteArray.empty)) := hc1 k (by rw [← H1.out]; omega)
      have hkz : k < zs.length := by rw [← H1.out]; exact hlt
      have T := Lib.hid (putK_succ n zs k hkz)
      have hsz2 : (zs.getD k ByteArray.empty).size ≤ 1000000 := by have := size_le_tot hkz; have := HT.out; omega
      have hl : (Lib.byteCells (putK n zs k)).length ≤ 4000000 := by
        rw [Lib.byteCells_length]
        have := HKL.out k; have := tot_take_le zs k; have := HT.out; have := List.length_take_le k zs; omega
      clear hc1 hkz
      generalize hxk : zs.getD k ByteArray.empty = x at g1 T hsz2
      clear hxk
      have hVr := Lib.hid ((hV.below hbw).more hsz)
      have hq20 := putN_len20 (n := x.size) (by unfold MX; omega)
      go_wp2_with fail
      go_at_call 62
      refine (put_is x.size wr (by unfold MX; omega) hVr.out).mono ?_
      rintro e w3 ⟨rfl, hB3⟩
      have hbw3 := hbw.trans (hB3.mono hsz)
      have hsz3 := hbw3.size
      have hb3 := builder_below hbk hB3
      clear hB3
      go_wp2_with fail
      go_at_call 63
      refine (writeString26 w.heap.size w.heap.size _ (B (putN x.size)) _ hb3 (by rw [B_size]; omega) hsz3).mono ?_
      rintro e w4 ⟨rfl, hb4, hB4⟩
      have hbw4 := hbw3.trans hB4
      have hsz4 := hbw4.size
      have hl4 : (Lib.byteCells (putK n zs k) ++ Lib.strCells (B (putN x.size))).length ≤ 4000020 := by rw [List.length_append, Lib.strCells_length, B_size]; omega
      clear hB4 hb3 hbw3
      go_wp2_with fail
      go_at_call 63
      refine (writeString26 w.heap.size w.heap.size _ x _ (.inr hb4) (by omega) hsz4).mono ?_
      rintro e w5 ⟨rfl, hb5, hB5⟩
      have hbw5 := hbw4.trans hB5
      have hb6 : Hid (Lib.IsBuilder 103 5 w.heap.size w.heap.size (Lib.byteCells (putK n zs (k + 1))) w5) := Lib.hid (.inr (by
        rw [byteCells_str, byteCells_str, list_B, List.append_assoc] at hb5
        rw [T.out]
        unfold putT
        rw [size_list]
        exact hb5))
      clear hb4 hb5 hB5 hbw4 hbk
      go_wp2
      go_roundg (n - (k + 1))
      case measure => omega
      case rel => exact ⟨k + 1, by omega, by omega, by go_num, hb6.out, hbw5⟩
    · have hkn : k = n := by omega
      subst hkn
      have hbn : Hid (Lib.IsBuilder 103 5 w.heap.size w.heap.size (Lib.byteCells (putL (num.bytesOf zs))) wr) := Lib.hid (by rw [← putK_all, ← H1.out]; exact hbk)
      clear hbk h1
      go_wp2_with fail
      go_at_call 64
      refine (Tryz.Builder_String_any w.heap.size w.heap.size _ _ hbn.out hsz).mono ?_
      rintro e w2 ⟨rfl, hB2⟩
      go_wp2
      go_ret
      exact ⟨rfl, hbw.trans hB2⟩
end Go.Proofs.YtmknbakfjhjfmaaGreatDoor.sps

/-! Splices: Encode, of the program; the law's Much. -/
namespace Go.Proofs.YtmknbakfjhjfmaaGreatDoor.sps
open Go.RowKit Go.Lib pce
set_option linter.unusedVariables false
set_option linter.unusedSimpArgs false
set_option linter.unnecessarySimpa false
set_option linter.unusedSectionVars false

/-- Yes; or no, and they are few. -/
def MuchSays (ts : List Ct) (many : Nat) (w : World) (e : Ending) (w' : World) : Prop :=
  (e = .returned (.bool true) ∨ (e = .returned (.bool false) ∧ ts.length ≤ many ∧ ∀ t ∈ ts, t.ins.length ≤ 2100 ∧ tot t.ins ≤ 20000)) ∧ w = w'
/-- Splices that came in, or lie where they were put. -/
theorem cuts_one' (w : World) (F : Nat → Prop) (t : Ct) (ht : CtOk w F t) : Cuts (w.alloc (.cells #[.int .i64 t.a, .int .i64 t.d, .slice t.A t.ins.length t.c] 46)) (fun _ => True) (some ⟨w.heap.size, 0, none⟩) [t] := by
  have hA := At.new w 46 #[.int .i64 t.a, .int .i64 t.d, .slice t.A t.ins.length t.c]
  refine ⟨fun _ => ⟨w.heap.size, 0, rfl, trivial, hA.lt, fun j u hj => ?_⟩, fun t' ht' => ?_⟩
  · rw [Nat.zero_add, hA.cell, ← hj]
    simp [flat, Ct.cells]
  · rw [List.mem_singleton.1 ht']
    have h := ht.keep (w' := w.alloc (.cells #[.int .i64 t.a, .int .i64 t.d, .slice t.A t.ins.length t.c] 46)) (fun b _ hb => Below.heap_alloc _ _ _ hb) (by simp)
    exact ⟨h.a1, h.a2, h.d1, h.d2, h.lst.any, h.size, h.few⟩

/-- What Encode tells: an error, and nothing; or the bytes. -/
def EncSays (a d : Int) (ins : List ByteArray) (k : Int) (w : World) (e : Ending) (w' : World) : Prop := Below w.heap.size w w' ∧
  ((¬ k = 0 ∧ e = .returned (.tuple #[.string ⟨#[]⟩, .int .i64 k])) ∨ (k = 0 ∧ e = .returned (.tuple #[.string (B (enc a.toNat d.toNat (num.bytesOf ins))), .int .i64 0])))
theorem cat_B (x y : List UInt8) : B x ++ B y = B (x ++ y) := num.B_append x y
set_option maxHeartbeats 4000000 in
set_option maxRecDepth 100000 in
theorem encode_is (a d : Int) (A : Option Addr) (n c : Nat) (ins : List ByteArray) (w : World) (k : Int) (hk : chkS a d ins = k) (ha1 : -9223372036854775808 ≤ a) (ha2 : a ≤ 9223372036854775807) (hd1 : -9223372036854775808 ≤ d) (hd2 : d ≤ 9223372036854775807)
    (hn : n = ins.length) (hb : n ≤ 100000) (ht : tot ins ≤ 1000000) (h : SRd w w.heap.size A ins) (hV : VarT w.heap.size w) :
    Calls Tryz.prog 37 #[.agg #[.int .i64 a, .int .i64 d, .slice A n c]] w (EncSays a d ins k w) := by
  obtain ⟨wb, hwb⟩ : ∃ wb, w.alloc (.cells #[.int .i64 a, .int .i64 d, .slice A n c] 46) = wb := ⟨_, rfl⟩
  have hX0 : Below w.heap.size w wb ∧ At wb w.heap.size 46 #[.int .i64 a, .int .i64 d, .slice A n c] ∧ w.heap.size + 1 ≤ wb.heap.size := by
    subst hwb
    exact ⟨(Below.refl _ _).alloc (Nat.le_refl _) _, At.new _ _ _, by simp⟩
  have C1 := Lib.hid (check_is a d A n c ins wb k hk ha1 ha2 hd1 hd2 hn hb ((h.below hX0.1).more hX0.1.size))
  obtain ⟨b0, b1, b2⟩ := three_at hX0.2.1
  have HX := Lib.hid (fun (W : World) (hB : Below wb.heap.size wb W) => And.intro (hX0.1.trans (hB.mono hX0.1.size)) (hX0.2.1.same (hB.block _ hX0.2.1.lt)))
  have HN := Lib.hid hn
  have HT := Lib.hid ht
  have HS := Lib.hid h
  have HV := Lib.hid hV
  have HK := Lib.hid hk
  clear hn ht h hV hX0 hk
  by_cases hk0 : k = 0
  · subst hk0
    obtain ⟨g1, g2, hfi⟩ := chkS_zero.1 HK.out
    obtain ⟨x, rfl⟩ : ∃ x : Nat, a = x := ⟨a.toNat, by omega⟩
    obtain ⟨y, rfl⟩ : ∃ y : Nat, d = y := ⟨d.toNat, by omega⟩
    have HLX : Hid ((num.putN x).length ≤ 20) := Lib.hid (num.putN_len20 (by unfold num.MX; omega))
    have HLY : Hid ((num.putN y).length ≤ 20) := Lib.hid (num.putN_len20 (by unfold num.MX; omega))
    have HLZ : Hid ((num.putL (num.bytesOf ins)).length ≤ 4000000) := Lib.hid (by
      have h1 := num.putK_len ins.length ins ins.length (by unfold num.MX; have := HN.out; omega) HT.out
      rw [num.putK_all, List.take_length] at h1
      have := HT.out; have := HN.out; omega)
    have KP := Lib.hid (fun (z : Nat) (hz : (z : Int) ≤ 9223372036854775807) (W : World) (hW : More wb.heap.size wb W) => (put_is z W (by unfold num.MX; omega) ((HV.out.below (HX.out W hW).1).more (HX.out W hW).1.size)).mono (fun e w' h => (And.intro h.1 (show More wb.heap.size wb w' from Below.trans hW (h.2.mono (Below.size hW)))))) 
    have KL := Lib.hid (fun (W : World) (hW : More wb.heap.size wb W) => (putList_is A c n ins W HN.out hb HT.out ((HS.out.below (HX.out W hW).1).more (HX.out W hW).1.size) ((HV.out.below (HX.out W hW).1).more (HX.out W hW).1.size)).mono (fun e w' h => (And.intro h.1 (show More wb.heap.size wb w' from Below.trans hW (h.2.mono (Below.size hW))))))
    have HXX : Hid ((B (num.putN x) ++ B (num.putN y)) ++ B (num.putL (num.bytesOf ins)) = B (enc x y (num.bytesOf ins))) := Lib.hid (by
      rw [cat_B, cat_B]; unfold enc; rw [List.append_assoc])
    go_enter Tryz.func37, Tryz.ntmps37
    go_wp2_with fail
    go_at_call 61
    refine C1.out.mono ?_
    rintro e w1 ⟨rfl, hB1⟩
    have hX1 := HX.out w1 hB1
    obtain ⟨d0, d1, d2⟩ := three_at hX1.2
    have M1 : More wb.heap.size wb w1 := hB1
    have M1' : More wb.heap.size wb w1.drew := below_drew hB1
    have SK : Hid (∀ W, More wb.heap.size wb W → W.cell? ⟨w.heap.size, 0, none⟩ = some (.int .i64 (x : Int)) ∧ W.cell? ⟨w.heap.size, 1, none⟩ = some (.int .i64 (y : Int)) ∧ W.cell? ⟨w.heap.size, 2, none⟩ = some (.slice A n c) ∧ More wb.heap.size wb W) := Lib.hid (fun W hW => ⟨(HX.out W hW).2.cell 0, (HX.out W hW).2.cell 1, (HX.out W hW).2.cell 2, hW⟩)
    have T1 := SK.out _ M1
    have T1' := SK.out _ M1'
    obtain ⟨X, hX⟩ : ∃ X, num.putN x = X := ⟨_, rfl⟩
    obtain ⟨Y, hY⟩ : ∃ Y, num.putN y = Y := ⟨_, rfl⟩
    obtain ⟨Z, hZ⟩ : ∃ Z, num.putL (num.bytesOf ins) = Z := ⟨_, rfl⟩
    have KX := Lib.hid (KP.out x (by omega))
    have KY := Lib.hid (KP.out y (by omega))
    rw [hX] at KX HLX HXX
    rw [hY] at KY HLY HXX
    rw [hZ] at KL HLZ HXX
    have hs1 : X.length + Y.length ≤ 9223372036854775807 := by have := HLX.out; have := HLY.out; omega
    have hs2 : X.length + Y.length + Z.length ≤ 9223372036854775807 := by have := HLX.out; have := HLY.out; have := HLZ.out; omega
    clear hB1 hX1 KP hX hY hZ HLX HLY HLZ
    go_wp2_with fail
    refine wp_region_noPanic ?_
    refine wp_region_held_drew (S := fun W => W.cell? ⟨w.heap.size, 0, none⟩ = some (.int .i64 (x : Int)) ∧ W.cell? ⟨w.heap.size, 1, none⟩ = some (.int .i64 (y : Int)) ∧ W.cell? ⟨w.heap.size, 2, none⟩ = some (.slice A n c) ∧ More wb.heap.size wb W) (by kernel_rfl) (by (try dsimp only); first | assumption | exact ⟨by assumption, by assumption, by assumption, by assumption⟩) (fun hHeld => ?_)
    refine held.take (i := 0) (v := .pointer (some ⟨w.heap.size, 0, none⟩)) rfl (by kernel_rfl) (by kernel_rfl) (by kernel_rfl) (fun _ _ _ h => h) (Or.inl ⟨by rfl, fun W hW => by (try dsimp only at hW); go_simp⟩) (by assumption) ?_
    (try simp only [Act.put, List.setIfInBounds_toArray, List.set_cons_zero, List.set_cons_succ])
    refine held.take (i := 1) (v := .int .i64 (x : Int)) rfl (by kernel_rfl) (by kernel_rfl) (by kernel_rfl) (fun _ _ _ h => h) (Or.inl ⟨by rfl, fun W hW => by (try dsimp only at hW); go_simp⟩) (by assumption) ?_
    (try simp only [Act.put, List.setIfInBounds_toArray, List.set_cons_zero, List.set_cons_succ])
    refine held.take (i := 3) (v := .pointer (some ⟨w.heap.size, 1, none⟩)) rfl (by kernel_rfl) (by kernel_rfl) (by kernel_rfl) (fun _ _ _ h => h) (Or.inl ⟨by rfl, fun W hW => by (try dsimp only at hW); go_simp⟩) (by assumption) ?_
    (try simp only [Act.put, List.setIfInBounds_toArray, List.set_cons_zero, List.set_cons_succ])
    refine held.take (i := 4) (v := .int .i64 (y : Int)) rfl (by kernel_rfl) (by kernel_rfl) (by kernel_rfl) (fun _ _ _ h => h) (Or.inl ⟨by rfl, fun W hW => by (try dsimp only at hW); go_simp⟩) (by assumption) ?_
    (try simp only [Act.put, List.setIfInBounds_toArray, List.set_cons_zero, List.set_cons_succ])
    refine held.take (i := 7) (v := .pointer (some ⟨w.heap.size, 2, none⟩)) rfl (by kernel_rfl) (by kernel_rfl) (by kernel_rfl) (fun _ _ _ h => h) (Or.inl ⟨by rfl, fun W hW => by (try dsimp only at hW); go_simp⟩) (by assumption) ?_
    (try simp only [Act.put, List.setIfInBounds_toArray, List.set_cons_zero, List.set_cons_succ])
    refine held.take (i := 8) (v := .slice A n c) rfl (by kernel_rfl) (by kernel_rfl) (by kernel_rfl) (fun _ _ _ h => h) (Or.inl ⟨by rfl, fun W hW => by (try dsimp only at hW); go_simp⟩) (by assumption) ?_
    (try simp only [Act.put, List.setIfInBounds_toArray, List.set_cons_zero, List.set_cons_succ])
    refine held.only (i := 2) (by kernel_rfl) rfl (fun K hK => ?_)
    go_simp
    go_at_call 62
    refine (KX.out _ (held4' (by assumption))).mono ?_
    rintro e w2 ⟨rfl, M2⟩
    have T2 := SK.out w2 M2
    refine hK.out _ _ (by (try dsimp only); first | assumption | exact ⟨by assumption, by assumption, by assumption, by assumption⟩) (fun hHeld => ?_)
    clear hK K
    (try simp only [Act.put, List.setIfInBounds_toArray, List.set_cons_zero, List.set_cons_succ])
    refine held.only (i := 5) (by kernel_rfl) rfl (fun K hK => ?_)
    go_simp
    go_at_call 62
    refine (KY.out _ (held4' (by assumption))).mono ?_
    rintro e w3 ⟨rfl, M3⟩
    have T3 := SK.out w3 M3
    refine hK.out _ _ (by (try dsimp only); first | assumption | exact ⟨by assumption, by assumption, by assumption, by assumption⟩) (fun hHeld => ?_)
    clear hK K
    (try simp only [Act.put, List.setIfInBounds_toArray, List.set_cons_zero, List.set_cons_succ])
    refine held.take (i := 6) (v := .string (B X ++ B Y)) rfl (by kernel_rfl) (by kernel_rfl) (by kernel_rfl) (fun _ _ _ h => h) (Or.inl ⟨by rfl, fun W hW => by (try dsimp only at hW); go_simp⟩) (by assumption) ?_
    (try simp only [Act.put, List.setIfInBounds_toArray, List.set_cons_zero, List.set_cons_succ])
    refine held.only (i := 9) (by kernel_rfl) rfl (fun K hK => ?_)
    go_simp
    go_at_call 38
    refine (KL.out _ (held4' (by assumption))).mono ?_
    rintro e w4 ⟨rfl, M4⟩
    have T4 := SK.out w4 M4
    refine hK.out _ _ (by (try dsimp only); first | assumption | exact ⟨by assumption, by assumption, by assumption, by assumption⟩) (fun hHeld => ?_)
    clear hK K
    (try simp only [Act.put, List.setIfInBounds_toArray, List.set_cons_zero, List.set_cons_succ])
    refine held.take (i := 10) (v := .string (B X ++ B Y ++ B Z)) rfl (by kernel_rfl) (by kernel_rfl) (by kernel_rfl) (fun _ _ _ h => h) (Or.inl ⟨by rfl, fun W hW => by (try dsimp only at hW); go_simp⟩) (by assumption) ?_
    (try simp only [Act.put, List.setIfInBounds_toArray, List.set_cons_zero, List.set_cons_succ])
    refine held.take (i := 11) (v := .string (B X ++ B Y ++ B Z)) rfl (by kernel_rfl) (by kernel_rfl) (by kernel_rfl) (fun _ _ _ h => h) (Or.inl ⟨by rfl, fun W hW => by (try dsimp only at hW); go_simp⟩) (by assumption) ?_
    (try simp only [Act.put, List.setIfInBounds_toArray, List.set_cons_zero, List.set_cons_succ])
    refine held.take (i := 12) (v := .int .i64 0) rfl (by kernel_rfl) (by kernel_rfl) (by kernel_rfl) (fun _ _ _ h => h) (Or.inl ⟨by rfl, fun W hW => by (try dsimp only at hW); go_simp⟩) (by assumption) ?_
    (try simp only [Act.put, List.setIfInBounds_toArray, List.set_cons_zero, List.set_cons_succ])
    refine wpAnyH_done (by kernel_rfl) ?_ _
    refine NoPanic.normal ?_
    have HB4 := Lib.hid (HX.out w4 M4).1
    clear T1 T1' T2 T3 T4 M1 M1' M2 M3 M4 hHeld SK KX KY KL
    go_wp2
    go_ret2
    refine ⟨HB4.out, .inr ⟨rfl, ?_⟩⟩
    rw [HXX.out]; rfl
  · have hqb : (k == 0) = false := by simpa using hk0
    have hqn : (k != 0) = true := by rw [bne, hqb]; rfl
    have HK0 := Lib.hid hk0
    clear hk0
    go_enter Tryz.func37, Tryz.ntmps37
    go_wp2_with fail
    go_at_call 61
    refine C1.out.mono ?_
    rintro e w1 ⟨rfl, hB1⟩
    have HB := Lib.hid (HX.out w1 hB1).1
    clear hB1
    go_wp2
    go_ret2
    exact ⟨HB.out, .inl ⟨HK0.out, rfl⟩⟩
end Go.Proofs.YtmknbakfjhjfmaaGreatDoor.sps
