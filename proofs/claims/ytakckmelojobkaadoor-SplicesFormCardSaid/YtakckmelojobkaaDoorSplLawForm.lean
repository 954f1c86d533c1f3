/- SplicesForm, walked. -/
import Derived.Test.YtakckmelojobkaaDoorSplDec2
import Derived.Test.YtakckmelojobkaaDoorSplDoes
/-! SplicesForm, walked. -/
namespace Go.Proofs.YtakckmelojobkaaDoor.sps
open Go.RowKit Go.Lib pce
set_option linter.unusedVariables false
set_option linter.unusedSimpArgs false
set_option linter.unnecessarySimpa false
set_option linter.unusedSectionVars false

theorem strs_map (ts : List (List UInt8)) : num.strs' ts = (ts.map B).map Value.string := rfl
theorem bytes_back (ins : List ByteArray) : (num.bytesOf ins).map B = ins := by
  unfold num.bytesOf
  rw [List.map_map]
  conv => rhs; rw [← List.map_id ins]
  exact List.map_congr_left fun s _ => B_list s
theorem back_bytes (ts : List (List UInt8)) : num.bytesOf (ts.map B) = ts := by
  unfold num.bytesOf
  rw [List.map_map]
  conv => rhs; rw [← List.map_id ts]
  exact List.map_congr_left fun s _ => list_B s
theorem decode_no (l : List UInt8) (W : World) (hl : l.length ≤ 100000) (hV : num.Vars W.heap.size W) (hd : dec l = none) :
    Calls Tryd.prog 29 #[.string (B l)] W fun e w' => e = .returned (.tuple #[.agg #[.int .i64 0, .int .i64 0, .slice none 0 0], .int .i64 40]) ∧ Below W.heap.size W w' := by
  refine (decode_is (B l) W (by rw [B_size]; exact hl) hV).mono ?_
  rintro e w' ⟨hB, h⟩
  rw [list_B, hd] at h
  exact ⟨h, hB⟩
theorem decode_yes (l : List UInt8) (a d : Nat) (ts : List (List UInt8)) (W : World) (hl : l.length ≤ 100000) (hV : num.Vars W.heap.size W) (hd : dec l = some (a, d, ts)) :
    Calls Tryd.prog 29 #[.string (B l)] W fun e w' => ∃ A c, e = .returned (.tuple #[.agg #[.int .i64 a, .int .i64 d, .slice A ts.length c], .int .i64 0]) ∧ Hid (Lst w' (fun _ => True) A ts.length c (ts.map B)) ∧ Below W.heap.size W w' := by
  refine (decode_is (B l) W (by rw [B_size]; exact hl) hV).mono ?_
  rintro e w' ⟨hB, h⟩
  rw [list_B, hd] at h
  obtain ⟨A, c, rfl, ho⟩ := h
  exact ⟨A, c, rfl, (lst_own (by rw [List.length_map]) ho).any, hB⟩
theorem encode_yes (a d : Nat) (A : Option Addr) (n c : Nat) (ins : List ByteArray) (w : World) (hk : chk ins = 0) (ha : a ≤ num.MX) (hd : d ≤ num.MX) (hn : n = ins.length) (hb : n ≤ 100000) (ht : tot ins ≤ 1000000) (h : SRd w w.heap.size A ins) (hV : VarT w.heap.size w) :
    Calls Tryd.prog 28 #[.agg #[.int .i64 a, .int .i64 d, .slice A n c]] w fun e w' => e = .returned (.tuple #[.string (B (enc a d (num.bytesOf ins))), .int .i64 0]) ∧ Below w.heap.size w w' := by
  unfold num.MX at ha hd
  refine (encode_is a d A n c ins w 0 (by rw [chkS_nat]; exact hk) (by omega) (by omega) (by omega) (by omega) hn hb ht h hV).mono ?_
  rintro e w' ⟨hB, ⟨h0, _⟩ | ⟨_, rfl⟩⟩
  · exact absurd rfl h0
  · exact ⟨rfl, hB⟩
theorem encode_no (a d : Int) (A : Option Addr) (n c : Nat) (ins : List ByteArray) (w : World) (k : Int) (hk : chkS a d ins = k) (hk0 : ¬ k = 0) (ha1 : -9223372036854775808 ≤ a) (ha2 : a ≤ 9223372036854775807) (hd1 : -9223372036854775808 ≤ d) (hd2 : d ≤ 9223372036854775807) (hn : n = ins.length) (hb : n ≤ 100000) (ht : tot ins ≤ 1000000) (h : SRd w w.heap.size A ins) (hV : VarT w.heap.size w) :
    Calls Tryd.prog 28 #[.agg #[.int .i64 a, .int .i64 d, .slice A n c]] w fun e w' => e = .returned (.tuple #[.string ⟨#[]⟩, .int .i64 k]) ∧ Below w.heap.size w w' := by
  refine (encode_is a d A n c ins w k hk ha1 ha2 hd1 hd2 hn hb ht h hV).mono ?_
  rintro e w' ⟨hB, ⟨_, rfl⟩ | ⟨h0, _⟩⟩
  · exact ⟨rfl, hB⟩
  · exact absurd h0 hk0
theorem front_slice (x : List UInt8) (i : Nat) (hi : i ≤ x.length) (W : World) : (Instr.slice 9 (.string (B x)) none (some (.int .i64 i)) none).run Tryd.prog W = .ok (.string (B (x.take i))) W := by
  have h := run_slice_string_h (P := Tryd.prog) W 9 (B x) Tryd.underlying9 .i64 (i : Int) (by omega) (by rw [B_size]; omega)
  rw [h, Int.toNat_natCast, num.extract_B, list_B, List.drop_zero, Nat.sub_zero]
theorem add_B (o r : List UInt8) (h : o.length + r.length ≤ 4000000000) (W : World) : (binOp .add 9 (.string (B o)) (.string (B r))).run Tryd.prog W = .ok (.string (B (o ++ r))) W := by
  have h1 : ¬ (((B o).size + (B r).size : Nat) : Int) > IntKind.i64.max := by
    rw [B_size, B_size]
    have : IntKind.i64.max = 9223372036854775807 := by decide
    omega
  have h2 : ¬ IntKind.i64.max < ((B o).size : Int) + ((B r).size : Int) := by
    have : (((B o).size + (B r).size : Nat) : Int) = ((B o).size : Int) + ((B r).size : Int) := by omega
    omega
  have h3 : ((B o).size : Int) + ((B r).size : Int) ≤ 9223372036854775807 := by
    rw [B_size, B_size]
    omega
  have e : B o ++ B r = B (o ++ r) := by
    apply ByteArray.ext
    simp [ByteArray.data_append]
  rw [← e]
  simp [binOp, Op.stringOp, h2]
  exact h3
set_option maxRecDepth 100000 in
theorem enc_size {a d : Nat} {ins : List ByteArray} (ha : a ≤ num.MX) (hd : d ≤ num.MX) (h1 : ins.length ≤ 2100) (h2 : tot ins ≤ 20000) : (enc a d (num.bytesOf ins)).length ≤ 62100 := by
  rw [enc_len]
  have g1 := num.putN_len20 ha
  have g2 := num.putN_len20 hd
  have g3 := num.putK_len ins.length ins ins.length (by unfold num.MX; omega) (by omega)
  rw [num.putK_all, List.take_length] at g3
  omega
theorem enc_two (a d : Nat) (ts : List (List UInt8)) : 0 < (enc a d ts).length := by
  rw [enc_len]; have := num.putN_len2 a; omega
theorem back_size {l : List UInt8} {a d : Nat} {ts : List (List UInt8)} (h : dec l = some (a, d, ts)) (hl : l.length ≤ 100000) : ts.length ≤ 2000 ∧ tot (ts.map B) ≤ 1000000 := by
  obtain ⟨rfl, _, _, h3⟩ := dec_iff.1 h
  refine ⟨(chk_few h3).1, ?_⟩
  have key : ∀ (us : List (List UInt8)), tot (us.map B) ≤ (us.flatMap num.putT).length := by
    intro us
    induction us with
    | nil => simp [tot]
    | cons t r ih =>
      rw [List.flatMap_cons, List.length_append, List.map_cons]
      have e1 : tot (B t :: r.map B) = (B t).size + tot (r.map B) := by simp [tot]
      have e2 : t.length ≤ (num.putT t).length := by unfold num.putT; rw [List.length_append]; omega
      rw [e1, B_size]; omega
  have h4 := key ts
  rw [enc_len] at hl
  unfold num.putL at hl
  rw [List.length_append] at hl
  omega
end Go.Proofs.YtakckmelojobkaaDoor.sps

/-! SplicesForm: some of its ways. -/
namespace Go.Proofs.YtakckmelojobkaaDoor.sps
open Go.RowKit Go.Lib pce
set_option linter.unusedVariables false
set_option linter.unusedSimpArgs false
set_option linter.unnecessarySimpa false
set_option linter.unusedSectionVars false

set_option maxHeartbeats 8000000 in
set_option maxRecDepth 100000 in
theorem law8z (a d : Int) (tA : Option Addr) (m tc : Nat) (ins : List ByteArray) (bl : List UInt8) (u : Nat) (w : World) (ha1 : -9223372036854775808 ≤ a) (ha2 : a ≤ 9223372036854775807) (hd1 : -9223372036854775808 ≤ d) (hd2 : d ≤ 9223372036854775807)
    (hI : Lst w (· < w.heap.size) tA m tc ins) (hzI : ∀ z ∈ ins, z.size ≤ maxLen) (hmf : m ≤ maxLen) (hbl : bl.length ≤ 9223372036854775807) (hu : u < 65536) (hV0 : num.Vars w.heap.size w) (hb3 : 3000 < bl.length) :
    Calls Tryd.prog 8 #[.agg #[.int .i64 a, .int .i64 d, .slice tA m tc], .string (B bl), .int .u16 u] w fun e w' => e = .returned (.bool true) ∧ Below w.heap.size w w' := by
  have hm := hI.len
  obtain ⟨wb, hwb⟩ : ∃ wb, w.alloc (.cells #[.int .i64 a, .int .i64 d, .slice tA m tc] 24) = wb := ⟨_, rfl⟩
  have hX0 : Below w.heap.size w wb ∧ At wb w.heap.size 24 #[.int .i64 a, .int .i64 d, .slice tA m tc] ∧ w.heap.size + 1 ≤ wb.heap.size := by
    subst hwb
    exact ⟨(Below.refl _ _).alloc (Nat.le_refl _) _, At.new _ _ _, by simp⟩
  have HX := Lib.hid hX0
  have C1 := Lib.hid (great tA tc w.heap.size m 100 3000 ins wb hm (by unfold maxLen at hmf; omega) (by omega) (by omega) hzI (hI.srd.below hX0.1))
  have HI := Lib.hid hI
  have HMM := Lib.hid hm
  have HV := Lib.hid (fun (W : World) (hB : Below w.heap.size w W) => (hV0.below hB).more hB.size)
  obtain ⟨b0, b1, b2⟩ := three_at hX0.2.1
  unfold maxLen at hmf
  clear hI hzI hm hX0 hV0
  go_enter Tryd.func8, Tryd.ntmps8
  go_wp2_with fail
  go_at_call 9
  refine C1.out.mono ?_
  rintro e w1 ⟨hg, hw1⟩
  subst hw1
  rcases hg with rfl | ⟨rfl, g1, g2⟩
  · go_wp2
    all_goals
      go_ret
      exact ⟨rfl, HX.out.1⟩
  have hm3 : m ≤ 100 := by rw [HMM.out]; exact g1
  have HTT := Lib.hid g2
  clear C1 g1 g2
  go_wp2
  go_ret
  exact ⟨rfl, HX.out.1⟩

set_option maxHeartbeats 8000000 in
set_option maxRecDepth 100000 in
theorem law8a (a d : Int) (tA : Option Addr) (m tc : Nat) (ins : List ByteArray) (bl : List UInt8) (u : Nat) (w : World) (ha1 : -9223372036854775808 ≤ a) (ha2 : a ≤ 9223372036854775807) (hd1 : -9223372036854775808 ≤ d) (hd2 : d ≤ 9223372036854775807)
    (hI : Lst w (· < w.heap.size) tA m tc ins) (hzI : ∀ z ∈ ins, z.size ≤ maxLen) (hmf : m ≤ maxLen) (hbl : bl.length ≤ 9223372036854775807) (hu : u < 65536) (hV0 : num.Vars w.heap.size w) (hb3 : bl.length ≤ 3000) (k : Int) (hk : chkS a d ins = k) (hk0 : ¬ k = 0) (hdb : dec bl = none) :
    Calls Tryd.prog 8 #[.agg #[.int .i64 a, .int .i64 d, .slice tA m tc], .string (B bl), .int .u16 u] w fun e w' => e = .returned (.bool true) ∧ Below w.heap.size w w' := by
  have hm := hI.len
  obtain ⟨wb, hwb⟩ : ∃ wb, w.alloc (.cells #[.int .i64 a, .int .i64 d, .slice tA m tc] 24) = wb := ⟨_, rfl⟩
  have hX0 : Below w.heap.size w wb ∧ At wb w.heap.size 24 #[.int .i64 a, .int .i64 d, .slice tA m tc] ∧ w.heap.size + 1 ≤ wb.heap.size := by
    subst hwb
    exact ⟨(Below.refl _ _).alloc (Nat.le_refl _) _, At.new _ _ _, by simp⟩
  have HX := Lib.hid hX0
  have C1 := Lib.hid (great tA tc w.heap.size m 100 3000 ins wb hm (by unfold maxLen at hmf; omega) (by omega) (by omega) hzI (hI.srd.below hX0.1))
  have HI := Lib.hid hI
  have HMM := Lib.hid hm
  have HV := Lib.hid (fun (W : World) (hB : Below w.heap.size w W) => (hV0.below hB).more hB.size)
  obtain ⟨b0, b1, b2⟩ := three_at hX0.2.1
  unfold maxLen at hmf
  clear hI hzI hm hX0 hV0
  have HDB := Lib.hid hdb
  clear hdb
  have HK := Lib.hid hk
  have HK0 := Lib.hid hk0
  have hqb : (k == 0) = false := by simpa using hk0
  have hqn : (k != 0) = true := by rw [bne, hqb]; rfl
  have hkk : (k != k) = false := by simp
  clear hk hk0
  go_enter Tryd.func8, Tryd.ntmps8
  go_wp2_with fail
  go_at_call 9
  refine C1.out.mono ?_
  rintro e w1 ⟨hg, hw1⟩
  subst hw1
  rcases hg with rfl | ⟨rfl, g1, g2⟩
  · go_wp2
    all_goals
      go_ret
      exact ⟨rfl, HX.out.1⟩
  have hm3 : m ≤ 100 := by rw [HMM.out]; exact g1
  have HTT := Lib.hid g2
  clear C1 g1 g2
  go_wp2_with fail
  go_at_call 28
  refine (encode_no a d tA m tc ins wb k HK.out HK0.out ha1 ha2 hd1 hd2 HMM.out (by omega) (by have := HTT.out; omega) (HI.out.below HX.out.1).srd (VarT.of (HV.out _ HX.out.1))).mono ?_
  rintro e w2 ⟨rfl, hB2⟩
  have HB2 := Lib.hid (HX.out.1.trans (hB2.mono HX.out.1.size))
  have hA2 := HX.out.2.1.same (hB2.block _ HX.out.2.1.lt)
  clear b0 b1 b2 hB2 hwb
  obtain ⟨b0, b1, b2⟩ := three_at hA2
  go_wp2_with fail
  go_at_call 18
  refine (check_is a d tA m tc ins w2 k HK.out ha1 ha2 hd1 hd2 HMM.out (by omega) (HI.out.below HB2.out).srd).mono ?_
  rintro e w3 ⟨rfl, hB3⟩
  have HB3 := Lib.hid (HB2.out.trans (hB3.mono HB2.out.size))
  clear b0 b1 b2 hB3 hA2 HB2 HX
  go_wp2_with fail
  go_at_call 29
  refine (decode_no bl w3 (by omega) (HV.out _ HB3.out) HDB.out).mono ?_
  rintro e y1 ⟨rfl, hy1⟩
  have HY1 := Lib.hid (HB3.out.trans (hy1.mono HB3.out.size))
  obtain ⟨y2, hy2⟩ : ∃ y2, y1.alloc (.cells #[.int .i64 0, .int .i64 0, .slice none 0 0] 24) = y2 := ⟨_, rfl⟩
  have hB2 : Below y1.heap.size y1 y2 := by rw [← hy2]; exact (Below.refl _ _).alloc (Nat.le_refl _) _
  have hA2 : At y2 y1.heap.size 24 #[.int .i64 0, .int .i64 0, .slice none 0 0] := by rw [← hy2]; exact At.new _ _ _
  obtain ⟨z0, z1, z2⟩ := three_at hA2
  have HY2 := Lib.hid (HY1.out.trans (hB2.mono HY1.out.size))
  clear hB2 hA2 hy1
  go_wp2_with (first
    | (refine wpList_storeL rfl (.tmp 15) (.tmp 89) rfl y1 _ _ _ (by first | rfl | exact hy2.symm) 0 0 none 0 0 (by first | rfl | simp [Act.eval, Act.put]) (by first | rfl | simp [Act.eval, Act.put]) ?_; rw [hy2])
    | fail "NONE")
  go_at_call 17
  refine (lawSame_is 0 0 0 0 none none 0 0 0 0 [] [] true y2 rfl rfl (by omega) (by omega) SRd.nil SRd.nil (by simp)).mono ?_
  rintro e y3 ⟨rfl, hy3⟩
  have HY3 := Lib.hid (HY2.out.trans (hy3.mono HY2.out.size))
  clear hy3 z0 z1 z2 HY2 HY1 hy2
  go_wp2_with fail
  go_at_call 21
  refine (does_is y3 (VarT.of (HV.out _ HY3.out))).mono ?_
  rintro e y4 ⟨rfl, hy4⟩
  have HY4 := Lib.hid (HY3.out.trans (hy4.mono HY3.out.size))
  clear hy4 HY3
  go_wp2
  go_ret
  exact ⟨rfl, HY4.out⟩

set_option maxHeartbeats 8000000 in
set_option maxRecDepth 100000 in
theorem law8b (a d : Int) (tA : Option Addr) (m tc : Nat) (ins : List ByteArray) (bl : List UInt8) (u : Nat) (w : World) (ha1 : -9223372036854775808 ≤ a) (ha2 : a ≤ 9223372036854775807) (hd1 : -9223372036854775808 ≤ d) (hd2 : d ≤ 9223372036854775807)
    (hI : Lst w (· < w.heap.size) tA m tc ins) (hzI : ∀ z ∈ ins, z.size ≤ maxLen) (hmf : m ≤ maxLen) (hbl : bl.length ≤ 9223372036854775807) (hu : u < 65536) (hV0 : num.Vars w.heap.size w) (hb3 : bl.length ≤ 3000) (k : Int) (hk : chkS a d ins = k) (hk0 : ¬ k = 0) (a' d' : Nat) (ts' : List (List UInt8)) (hdb : dec bl = some (a', d', ts')) :
    Calls Tryd.prog 8 #[.agg #[.int .i64 a, .int .i64 d, .slice tA m tc], .string (B bl), .int .u16 u] w fun e w' => e = .returned (.bool true) ∧ Below w.heap.size w w' := by
  have hm := hI.len
  obtain ⟨wb, hwb⟩ : ∃ wb, w.alloc (.cells #[.int .i64 a, .int .i64 d, .slice tA m tc] 24) = wb := ⟨_, rfl⟩
  have hX0 : Below w.heap.size w wb ∧ At wb w.heap.size 24 #[.int .i64 a, .int .i64 d, .slice tA m tc] ∧ w.heap.size + 1 ≤ wb.heap.size := by
    subst hwb
    exact ⟨(Below.refl _ _).alloc (Nat.le_refl _) _, At.new _ _ _, by simp⟩
  have HX := Lib.hid hX0
  have C1 := Lib.hid (great tA tc w.heap.size m 100 3000 ins wb hm (by unfold maxLen at hmf; omega) (by omega) (by omega) hzI (hI.srd.below hX0.1))
  have HI := Lib.hid hI
  have HMM := Lib.hid hm
  have HV := Lib.hid (fun (W : World) (hB : Below w.heap.size w W) => (hV0.below hB).more hB.size)
  obtain ⟨b0, b1, b2⟩ := three_at hX0.2.1
  unfold maxLen at hmf
  clear hI hzI hm hX0 hV0
  have HDB := Lib.hid hdb
  obtain ⟨e1, e2, e3, e4⟩ := dec_iff.1 hdb
  obtain ⟨f1, f2⟩ := back_size hdb (by omega)
  have HDC := Lib.hid (show chk (ts'.map B) = 0 ∧ a' ≤ num.MX ∧ d' ≤ num.MX ∧ ts'.length ≤ 2000 ∧ tot (ts'.map B) ≤ 1000000 ∧ enc a' d' (num.bytesOf (ts'.map B)) = bl from ⟨e4, e2, e3, f1, f2, by rw [back_bytes, e1]⟩)
  clear e1 e2 e3 e4 f1 f2
  clear hdb
  have HK := Lib.hid hk
  have HK0 := Lib.hid hk0
  have hqb : (k == 0) = false := by simpa using hk0
  have hqn : (k != 0) = true := by rw [bne, hqb]; rfl
  have hkk : (k != k) = false := by simp
  clear hk hk0
  go_enter Tryd.func8, Tryd.ntmps8
  go_wp2_with fail
  go_at_call 9
  refine C1.out.mono ?_
  rintro e w1 ⟨hg, hw1⟩
  subst hw1
  rcases hg with rfl | ⟨rfl, g1, g2⟩
  · go_wp2
    all_goals
      go_ret
      exact ⟨rfl, HX.out.1⟩
  have hm3 : m ≤ 100 := by rw [HMM.out]; exact g1
  have HTT := Lib.hid g2
  clear C1 g1 g2
  go_wp2_with fail
  go_at_call 28
  refine (encode_no a d tA m tc ins wb k HK.out HK0.out ha1 ha2 hd1 hd2 HMM.out (by omega) (by have := HTT.out; omega) (HI.out.below HX.out.1).srd (VarT.of (HV.out _ HX.out.1))).mono ?_
  rintro e w2 ⟨rfl, hB2⟩
  have HB2 := Lib.hid (HX.out.1.trans (hB2.mono HX.out.1.size))
  have hA2 := HX.out.2.1.same (hB2.block _ HX.out.2.1.lt)
  clear b0 b1 b2 hB2 hwb
  obtain ⟨b0, b1, b2⟩ := three_at hA2
  go_wp2_with fail
  go_at_call 18
  refine (check_is a d tA m tc ins w2 k HK.out ha1 ha2 hd1 hd2 HMM.out (by omega) (HI.out.below HB2.out).srd).mono ?_
  rintro e w3 ⟨rfl, hB3⟩
  have HB3 := Lib.hid (HB2.out.trans (hB3.mono HB2.out.size))
  clear b0 b1 b2 hB3 hA2 HB2 HX
  go_wp2_with fail
  go_at_call 29
  refine (decode_yes bl a' d' ts' w3 (by omega) (HV.out _ HB3.out) HDB.out).mono ?_
  rintro e y1 ⟨A9, c9, rfl, L9, hy1⟩
  have HY1 := Lib.hid (HB3.out.trans (hy1.mono HB3.out.size))
  obtain ⟨y2, hy2⟩ : ∃ y2, y1.alloc (.cells #[.int .i64 a', .int .i64 d', .slice A9 ts'.length c9] 24) = y2 := ⟨_, rfl⟩
  have hB2 : Below y1.heap.size y1 y2 := by rw [← hy2]; exact (Below.refl _ _).alloc (Nat.le_refl _) _
  have hA2 : At y2 y1.heap.size 24 #[.int .i64 a', .int .i64 d', .slice A9 ts'.length c9] := by rw [← hy2]; exact At.new _ _ _
  obtain ⟨z0, z1, z2⟩ := three_at hA2
  have HY2 := Lib.hid (HY1.out.trans (hB2.mono HY1.out.size))
  have M9 := Lib.hid (L9.out.below hB2)
  clear hB2 hA2 hy1 L9
  go_wp2_with (first
    | (refine wpList_storeL rfl (.tmp 15) (.tmp 89) rfl y1 _ _ _ (by first | rfl | exact hy2.symm) a' d' A9 ts'.length c9 (by first | rfl | simp [Act.eval, Act.put]) (by first | rfl | simp [Act.eval, Act.put]) ?_; rw [hy2])
    | fail "NONE")
  go_at_call 28
  refine (encode_yes a' d' A9 ts'.length c9 (ts'.map B) y2 HDC.out.1 HDC.out.2.1 HDC.out.2.2.1 (by rw [List.length_map]) (by have := HDC.out.2.2.2.1; omega) HDC.out.2.2.2.2.1 M9.out.srd (VarT.of (HV.out _ HY2.out))).mono ?_
  rw [HDC.out.2.2.2.2.2]
  rintro e y3 ⟨rfl, hy3⟩
  have HY3 := Lib.hid (HY2.out.trans (hy3.mono HY2.out.size))
  clear hy3 z0 z1 z2 HY2 HY1 hy2 M9
  go_wp2_with fail
  go_at_call 21
  refine (does_is y3 (VarT.of (HV.out _ HY3.out))).mono ?_
  rintro e y4 ⟨rfl, hy4⟩
  have HY4 := Lib.hid (HY3.out.trans (hy4.mono HY3.out.size))
  clear hy4 HY3
  go_wp2
  go_ret
  exact ⟨rfl, HY4.out⟩
end Go.Proofs.YtakckmelojobkaaDoor.sps

/-! SplicesForm: some of its ways. -/
namespace Go.Proofs.YtakckmelojobkaaDoor.sps
open Go.RowKit Go.Lib pce
set_option linter.unusedVariables false
set_option linter.unusedSimpArgs false
set_option linter.unnecessarySimpa false
set_option linter.unusedSectionVars false

set_option maxHeartbeats 8000000 in
set_option maxRecDepth 100000 in
theorem law8c (a d : Int) (tA : Option Addr) (m tc : Nat) (ins : List ByteArray) (bl : List UInt8) (u : Nat) (w : World) (ha1 : -9223372036854775808 ≤ a) (ha2 : a ≤ 9223372036854775807) (hd1 : -9223372036854775808 ≤ d) (hd2 : d ≤ 9223372036854775807)
    (hI : Lst w (· < w.heap.size) tA m tc ins) (hzI : ∀ z ∈ ins, z.size ≤ maxLen) (hmf : m ≤ maxLen) (hbl : bl.length ≤ 9223372036854775807) (hu : u < 65536) (hV0 : num.Vars w.heap.size w) (hb3 : bl.length ≤ 3000) (x y : Nat) (hax : a = x) (hdy : d = y) (hk : chk ins = 0) (hbe : bl = []) (hdb : dec bl = none) :
    Calls Tryd.prog 8 #[.agg #[.int .i64 a, .int .i64 d, .slice tA m tc], .string (B bl), .int .u16 u] w fun e w' => e = .returned (.bool true) ∧ Below w.heap.size w w' := by
  have hm := hI.len
  obtain ⟨wb, hwb⟩ : ∃ wb, w.alloc (.cells #[.int .i64 a, .int .i64 d, .slice tA m tc] 24) = wb := ⟨_, rfl⟩
  have hX0 : Below w.heap.size w wb ∧ At wb w.heap.size 24 #[.int .i64 a, .int .i64 d, .slice tA m tc] ∧ w.heap.size + 1 ≤ wb.heap.size := by
    subst hwb
    exact ⟨(Below.refl _ _).alloc (Nat.le_refl _) _, At.new _ _ _, by simp⟩
  have HX := Lib.hid hX0
  have C1 := Lib.hid (great tA tc w.heap.size m 100 3000 ins wb hm (by unfold maxLen at hmf; omega) (by omega) (by omega) hzI (hI.srd.below hX0.1))
  have HI := Lib.hid hI
  have HMM := Lib.hid hm
  have HV := Lib.hid (fun (W : World) (hB : Below w.heap.size w W) => (hV0.below hB).more hB.size)
  obtain ⟨b0, b1, b2⟩ := three_at hX0.2.1
  unfold maxLen at hmf
  clear hI hzI hm hX0 hV0
  have HDB := Lib.hid hdb
  clear hdb
  subst hax hdy
  have hxm : x ≤ num.MX := by unfold num.MX; omega
  have hym : y ≤ num.MX := by unfold num.MX; omega
  have HK := Lib.hid hk
  obtain ⟨X, hX⟩ : ∃ X, enc x y (num.bytesOf ins) = X := ⟨_, rfl⟩
  have HXX := Lib.hid hX
  have HP := Lib.hid (show 0 < X.length by rw [← hX]; exact enc_two _ _ _)
  have HDX := Lib.hid (show dec X = some (x, y, num.bytesOf ins) by rw [← hX]; exact dec_enc hxm hym hk)
  have HBE := Lib.hid hbe
  clear hX hk hbe
  go_enter Tryd.func8, Tryd.ntmps8
  go_wp2_with fail
  go_at_call 9
  refine C1.out.mono ?_
  rintro e w1 ⟨hg, hw1⟩
  subst hw1
  rcases hg with rfl | ⟨rfl, g1, g2⟩
  · go_wp2
    all_goals
      go_ret
      exact ⟨rfl, HX.out.1⟩
  have hm3 : m ≤ 100 := by rw [HMM.out]; exact g1
  have HTT := Lib.hid g2
  clear C1 g1 g2
  have hXL : X.length ≤ 62100 := by rw [← HXX.out]; exact enc_size hxm hym (by rw [← HMM.out]; omega) (by have := HTT.out; omega)
  obtain ⟨q, hq⟩ : ∃ q, q = u % X.length := ⟨_, rfl⟩
  have hqx : q < X.length := by rw [hq]; exact Nat.mod_lt _ HP.out
  have hql : ((u : Int) % (X.length : Int)) = (q : Int) := by rw [hq, Int.natCast_emod]
  have HLS := Lib.hid (show dec (X.take q) = none by rw [← HXX.out]; exact dec_less (by rw [HXX.out]; exact hqx))
  have hxp : 0 < X.length := HP.out
  have hxe : (X == []) = false := by cases X with
    | nil => simp at hxp
    | cons c r => rfl
  have hxn : (X != []) = true := by rw [bne, hxe]; rfl
  have S1 := fun W => front_slice X q (by omega) W
  have S2 := fun W => add_B X bl (by omega) W
  clear hq
  go_wp2_with fail
  go_at_call 28
  refine (encode_yes x y tA m tc ins wb HK.out hxm hym HMM.out (by omega) (by have := HTT.out; omega) (HI.out.below HX.out.1).srd (VarT.of (HV.out _ HX.out.1))).mono ?_
  rw [HXX.out]
  rintro e w2 ⟨rfl, hB2⟩
  have HB2 := Lib.hid (HX.out.1.trans (hB2.mono HX.out.1.size))
  have HA2 := Lib.hid (HX.out.2.1.same (hB2.block _ HX.out.2.1.lt))
  clear b0 b1 b2 hB2 hwb
  go_wp2_with fail
  go_at_call 29
  refine (decode_yes X x y (num.bytesOf ins) w2 (by omega) (HV.out _ HB2.out) HDX.out).mono ?_
  rintro e w3 ⟨A3, c3, rfl, L3, hB3⟩
  have hil : (num.bytesOf ins).length = m := by unfold num.bytesOf; rw [List.length_map, HMM.out]
  rw [bytes_back] at L3
  rw [hil] at L3 ⊢
  clear hil
  have HB3 := Lib.hid (HB2.out.trans (hB3.mono HB2.out.size))
  have HA3 := Lib.hid (HA2.out.same (hB3.block _ HA2.out.lt))
  clear hB3 HB2 HA2
  obtain ⟨w4, hw4⟩ : ∃ w4, w3.alloc (.cells #[.int .i64 x, .int .i64 y, .slice A3 m c3] 24) = w4 := ⟨_, rfl⟩
  have hB4 : Below w3.heap.size w3 w4 := by rw [← hw4]; exact (Below.refl _ _).alloc (Nat.le_refl _) _
  have hA4 : At w4 w3.heap.size 24 #[.int .i64 x, .int .i64 y, .slice A3 m c3] := by rw [← hw4]; exact At.new _ _ _
  have hS4 := HA3.out.same (hB4.block _ HA3.out.lt)
  obtain ⟨b0, b1, b2⟩ := three_at hS4
  obtain ⟨t0, t1, t2⟩ := three_at hA4
  have HB4 := Lib.hid (HB3.out.trans (hB4.mono HB3.out.size))
  have L4 := Lib.hid (L3.out.below hB4)
  have HA4 := Lib.hid hS4
  clear hB4 hA4 hS4 HB3 HA3 L3
  go_wp2_with (first
    | (refine wpList_storeL rfl (.tmp 9) (.tmp 37) rfl w3 _ _ _ rfl x y A3 m c3 (by first | rfl | simp [Act.eval, Act.put]) (by first | rfl | simp [Act.eval, Act.put]) ?_; rw [hw4])
    | fail "NONE")
  go_at_call 17
  refine (lawSame_is x y x y A3 tA m c3 m tc ins ins true w4 HMM.out HMM.out (by omega) (by omega) L4.out.srd (HI.out.below HB4.out).srd (by simp)).mono ?_
  rintro e w5 ⟨rfl, hB5⟩
  have HB5 := Lib.hid (HB4.out.trans (hB5.mono HB4.out.size))
  clear hB5 HB4 L4 HA4 t0 t1 t2 b0 b1 b2 hw4
  go_wp2_with fail
  go_at_call 29
  refine (decode_no (X.take q) w5 (by have := List.length_take_le q X; omega) (HV.out _ HB5.out) HLS.out).mono ?_
  rintro e w6 ⟨rfl, hB6⟩
  have HB6 := Lib.hid (HB5.out.trans (hB6.mono HB5.out.size))
  obtain ⟨w7, hw7⟩ : ∃ w7, w6.alloc (.cells #[.int .i64 0, .int .i64 0, .slice none 0 0] 24) = w7 := ⟨_, rfl⟩
  have hB7 : Below w6.heap.size w6 w7 := by rw [← hw7]; exact (Below.refl _ _).alloc (Nat.le_refl _) _
  have HB7 := Lib.hid (HB6.out.trans (hB7.mono HB6.out.size))
  clear hB6 hB7 HB5 HB6
  go_wp2_with (first
    | (refine wpList_storeL rfl (.tmp 11) (.tmp 60) rfl w6 _ _ _ (by first | rfl | exact hw7.symm) 0 0 none 0 0 (by first | rfl | simp [Act.eval, Act.put]) (by first | rfl | simp [Act.eval, Act.put]) ?_; rw [hw7])
    | fail "NONE")
  go_at_call 29
  refine (decode_yes (X ++ bl) x y (num.bytesOf ins) w7 (by rw [List.length_append]; omega) (HV.out _ HB7.out) (by rw [HBE.out, List.append_nil]; exact HDX.out)).mono ?_
  rintro e w8 ⟨A8, c8, rfl, L8, hB8⟩
  have HB8 := Lib.hid (HB7.out.trans (hB8.mono HB7.out.size))
  have hil : (num.bytesOf ins).length = m := by unfold num.bytesOf; rw [List.length_map, HMM.out]
  rw [hil]
  clear hB8 HB7 L8 hw7 hil
  obtain ⟨w9, hw9⟩ : ∃ w9, w8.alloc (.cells #[.int .i64 x, .int .i64 y, .slice A8 m c8] 24) = w9 := ⟨_, rfl⟩
  have hB9 : Below w8.heap.size w8 w9 := by rw [← hw9]; exact (Below.refl _ _).alloc (Nat.le_refl _) _
  have HB9 := Lib.hid (HB8.out.trans (hB9.mono HB8.out.size))
  have hbb : (bl == []) = true := by rw [HBE.out]; rfl
  clear hB9 HB8
  go_wp2_with (first
    | (refine wpList_storeL rfl (.tmp 13) (.tmp 67) rfl w8 _ _ _ (by first | rfl | exact hw9.symm) x y A8 m c8 (by first | rfl | simp [Act.eval, Act.put]) (by first | rfl | simp [Act.eval, Act.put]) ?_; rw [hw9])
    | fail "NONE")
  go_at_call 29
  refine (decode_no bl w9 (by omega) (HV.out _ HB9.out) HDB.out).mono ?_
  rintro e y1 ⟨rfl, hy1⟩
  have HY1 := Lib.hid (HB9.out.trans (hy1.mono HB9.out.size))
  obtain ⟨y2, hy2⟩ : ∃ y2, y1.alloc (.cells #[.int .i64 0, .int .i64 0, .slice none 0 0] 24) = y2 := ⟨_, rfl⟩
  have hB2 : Below y1.heap.size y1 y2 := by rw [← hy2]; exact (Below.refl _ _).alloc (Nat.le_refl _) _
  have hA2 : At y2 y1.heap.size 24 #[.int .i64 0, .int .i64 0, .slice none 0 0] := by rw [← hy2]; exact At.new _ _ _
  obtain ⟨z0, z1, z2⟩ := three_at hA2
  have HY2 := Lib.hid (HY1.out.trans (hB2.mono HY1.out.size))
  clear hB2 hA2 hy1
  go_wp2_with (first
    | (refine wpList_storeL rfl (.tmp 15) (.tmp 89) rfl y1 _ _ _ (by first | rfl | exact hy2.symm) 0 0 none 0 0 (by first | rfl | simp [Act.eval, Act.put]) (by first | rfl | simp [Act.eval, Act.put]) ?_; rw [hy2])
    | fail "NONE")
  go_at_call 17
  refine (lawSame_is 0 0 0 0 none none 0 0 0 0 [] [] true y2 rfl rfl (by omega) (by omega) SRd.nil SRd.nil (by simp)).mono ?_
  rintro e y3 ⟨rfl, hy3⟩
  have HY3 := Lib.hid (HY2.out.trans (hy3.mono HY2.out.size))
  clear hy3 z0 z1 z2 HY2 HY1 hy2
  go_wp2_with fail
  go_at_call 21
  refine (does_is y3 (VarT.of (HV.out _ HY3.out))).mono ?_
  rintro e y4 ⟨rfl, hy4⟩
  have HY4 := Lib.hid (HY3.out.trans (hy4.mono HY3.out.size))
  clear hy4 HY3
  go_wp2
  go_ret
  exact ⟨rfl, HY4.out⟩
end Go.Proofs.YtakckmelojobkaaDoor.sps

/-! SplicesForm: some of its ways. -/
namespace Go.Proofs.YtakckmelojobkaaDoor.sps
open Go.RowKit Go.Lib pce
set_option linter.unusedVariables false
set_option linter.unusedSimpArgs false
set_option linter.unnecessarySimpa false
set_option linter.unusedSectionVars false

set_option maxHeartbeats 8000000 in
set_option maxRecDepth 100000 in
theorem law8d (a d : Int) (tA : Option Addr) (m tc : Nat) (ins : List ByteArray) (bl : List UInt8) (u : Nat) (w : World) (ha1 : -9223372036854775808 ≤ a) (ha2 : a ≤ 9223372036854775807) (hd1 : -9223372036854775808 ≤ d) (hd2 : d ≤ 9223372036854775807)
    (hI : Lst w (· < w.heap.size) tA m tc ins) (hzI : ∀ z ∈ ins, z.size ≤ maxLen) (hmf : m ≤ maxLen) (hbl : bl.length ≤ 9223372036854775807) (hu : u < 65536) (hV0 : num.Vars w.heap.size w) (hb3 : bl.length ≤ 3000) (x y : Nat) (hax : a = x) (hdy : d = y) (hk : chk ins = 0) (hbe : ¬ bl = []) (hdb : dec bl = none) :
    Calls Tryd.prog 8 #[.agg #[.int .i64 a, .int .i64 d, .slice tA m tc], .string (B bl), .int .u16 u] w fun e w' => e = .returned (.bool true) ∧ Below w.heap.size w w' := by
  have hm := hI.len
  obtain ⟨wb, hwb⟩ : ∃ wb, w.alloc (.cells #[.int .i64 a, .int .i64 d, .slice tA m tc] 24) = wb := ⟨_, rfl⟩
  have hX0 : Below w.heap.size w wb ∧ At wb w.heap.size 24 #[.int .i64 a, .int .i64 d, .slice tA m tc] ∧ w.heap.size + 1 ≤ wb.heap.size := by
    subst hwb
    exact ⟨(Below.refl _ _).alloc (Nat.le_refl _) _, At.new _ _ _, by simp⟩
  have HX := Lib.hid hX0
  have C1 := Lib.hid (great tA tc w.heap.size m 100 3000 ins wb hm (by unfold maxLen at hmf; omega) (by omega) (by omega) hzI (hI.srd.below hX0.1))
  have HI := Lib.hid hI
  have HMM := Lib.hid hm
  have HV := Lib.hid (fun (W : World) (hB : Below w.heap.size w W) => (hV0.below hB).more hB.size)
  obtain ⟨b0, b1, b2⟩ := three_at hX0.2.1
  unfold maxLen at hmf
  clear hI hzI hm hX0 hV0
  have HDB := Lib.hid hdb
  clear hdb
  subst hax hdy
  have hxm : x ≤ num.MX := by unfold num.MX; omega
  have hym : y ≤ num.MX := by unfold num.MX; omega
  have HK := Lib.hid hk
  obtain ⟨X, hX⟩ : ∃ X, enc x y (num.bytesOf ins) = X := ⟨_, rfl⟩
  have HXX := Lib.hid hX
  have HP := Lib.hid (show 0 < X.length by rw [← hX]; exact enc_two _ _ _)
  have HDX := Lib.hid (show dec X = some (x, y, num.bytesOf ins) by rw [← hX]; exact dec_enc hxm hym hk)
  have HBE := Lib.hid hbe
  clear hX hk hbe
  go_enter Tryd.func8, Tryd.ntmps8
  go_wp2_with fail
  go_at_call 9
  refine C1.out.mono ?_
  rintro e w1 ⟨hg, hw1⟩
  subst hw1
  rcases hg with rfl | ⟨rfl, g1, g2⟩
  · go_wp2
    all_goals
      go_ret
      exact ⟨rfl, HX.out.1⟩
  have hm3 : m ≤ 100 := by rw [HMM.out]; exact g1
  have HTT := Lib.hid g2
  clear C1 g1 g2
  have hXL : X.length ≤ 62100 := by rw [← HXX.out]; exact enc_size hxm hym (by rw [← HMM.out]; omega) (by have := HTT.out; omega)
  obtain ⟨q, hq⟩ : ∃ q, q = u % X.length := ⟨_, rfl⟩
  have hqx : q < X.length := by rw [hq]; exact Nat.mod_lt _ HP.out
  have hql : ((u : Int) % (X.length : Int)) = (q : Int) := by rw [hq, Int.natCast_emod]
  have HLS := Lib.hid (show dec (X.take q) = none by rw [← HXX.out]; exact dec_less (by rw [HXX.out]; exact hqx))
  have hxp : 0 < X.length := HP.out
  have hxe : (X == []) = false := by cases X with
    | nil => simp at hxp
    | cons c r => rfl
  have hxn : (X != []) = true := by rw [bne, hxe]; rfl
  have S1 := fun W => front_slice X q (by omega) W
  have S2 := fun W => add_B X bl (by omega) W
  clear hq
  go_wp2_with fail
  go_at_call 28
  refine (encode_yes x y tA m tc ins wb HK.out hxm hym HMM.out (by omega) (by have := HTT.out; omega) (HI.out.below HX.out.1).srd (VarT.of (HV.out _ HX.out.1))).mono ?_
  rw [HXX.out]
  rintro e w2 ⟨rfl, hB2⟩
  have HB2 := Lib.hid (HX.out.1.trans (hB2.mono HX.out.1.size))
  have HA2 := Lib.hid (HX.out.2.1.same (hB2.block _ HX.out.2.1.lt))
  clear b0 b1 b2 hB2 hwb
  go_wp2_with fail
  go_at_call 29
  refine (decode_yes X x y (num.bytesOf ins) w2 (by omega) (HV.out _ HB2.out) HDX.out).mono ?_
  rintro e w3 ⟨A3, c3, rfl, L3, hB3⟩
  have hil : (num.bytesOf ins).length = m := by unfold num.bytesOf; rw [List.length_map, HMM.out]
  rw [bytes_back] at L3
  rw [hil] at L3 ⊢
  clear hil
  have HB3 := Lib.hid (HB2.out.trans (hB3.mono HB2.out.size))
  have HA3 := Lib.hid (HA2.out.same (hB3.block _ HA2.out.lt))
  clear hB3 HB2 HA2
  obtain ⟨w4, hw4⟩ : ∃ w4, w3.alloc (.cells #[.int .i64 x, .int .i64 y, .slice A3 m c3] 24) = w4 := ⟨_, rfl⟩
  have hB4 : Below w3.heap.size w3 w4 := by rw [← hw4]; exact (Below.refl _ _).alloc (Nat.le_refl _) _
  have hA4 : At w4 w3.heap.size 24 #[.int .i64 x, .int .i64 y, .slice A3 m c3] := by rw [← hw4]; exact At.new _ _ _
  have hS4 := HA3.out.same (hB4.block _ HA3.out.lt)
  obtain ⟨b0, b1, b2⟩ := three_at hS4
  obtain ⟨t0, t1, t2⟩ := three_at hA4
  have HB4 := Lib.hid (HB3.out.trans (hB4.mono HB3.out.size))
  have L4 := Lib.hid (L3.out.below hB4)
  have HA4 := Lib.hid hS4
  clear hB4 hA4 hS4 HB3 HA3 L3
  go_wp2_with (first
    | (refine wpList_storeL rfl (.tmp 9) (.tmp 37) rfl w3 _ _ _ rfl x y A3 m c3 (by first | rfl | simp [Act.eval, Act.put]) (by first | rfl | simp [Act.eval, Act.put]) ?_; rw [hw4])
    | fail "NONE")
  go_at_call 17
  refine (lawSame_is x y x y A3 tA m c3 m tc ins ins true w4 HMM.out HMM.out (by omega) (by omega) L4.out.srd (HI.out.below HB4.out).srd (by simp)).mono ?_
  rintro e w5 ⟨rfl, hB5⟩
  have HB5 := Lib.hid (HB4.out.trans (hB5.mono HB4.out.size))
  clear hB5 HB4 L4 HA4 t0 t1 t2 b0 b1 b2 hw4
  go_wp2_with fail
  go_at_call 29
  refine (decode_no (X.take q) w5 (by have := List.length_take_le q X; omega) (HV.out _ HB5.out) HLS.out).mono ?_
  rintro e w6 ⟨rfl, hB6⟩
  have HB6 := Lib.hid (HB5.out.trans (hB6.mono HB5.out.size))
  obtain ⟨w7, hw7⟩ : ∃ w7, w6.alloc (.cells #[.int .i64 0, .int .i64 0, .slice none 0 0] 24) = w7 := ⟨_, rfl⟩
  have hB7 : Below w6.heap.size w6 w7 := by rw [← hw7]; exact (Below.refl _ _).alloc (Nat.le_refl _) _
  have HB7 := Lib.hid (HB6.out.trans (hB7.mono HB6.out.size))
  clear hB6 hB7 HB5 HB6
  go_wp2_with (first
    | (refine wpList_storeL rfl (.tmp 11) (.tmp 60) rfl w6 _ _ _ (by first | rfl | exact hw7.symm) 0 0 none 0 0 (by first | rfl | simp [Act.eval, Act.put]) (by first | rfl | simp [Act.eval, Act.put]) ?_; rw [hw7])
    | fail "NONE")
  go_at_call 29
  refine (decode_no (X ++ bl) w7 (by rw [List.length_append]; omega) (HV.out _ HB7.out) (by
    cases e : dec (X ++ bl) with
    | none => rfl
    | some z =>
      exact absurd (dec_more (a := x) (d := y) (ts := num.bytesOf ins) (r := bl) (by rw [HXX.out, e]; rfl)) HBE.out)).mono ?_
  rintro e w8 ⟨rfl, hB8⟩
  have HB8 := Lib.hid (HB7.out.trans (hB8.mono HB7.out.size))
  clear hB8 HB7 hw7
  obtain ⟨w9, hw9⟩ : ∃ w9, w8.alloc (.cells #[.int .i64 0, .int .i64 0, .slice none 0 0] 24) = w9 := ⟨_, rfl⟩
  have hB9 : Below w8.heap.size w8 w9 := by rw [← hw9]; exact (Below.refl _ _).alloc (Nat.le_refl _) _
  have HB9 := Lib.hid (HB8.out.trans (hB9.mono HB8.out.size))
  have hbb : (bl == []) = false := by simpa using HBE.out
  clear hB9 HB8
  go_wp2_with (first
    | (refine wpList_storeL rfl (.tmp 13) (.tmp 67) rfl w8 _ _ _ (by first | rfl | exact hw9.symm) 0 0 none 0 0 (by first | rfl | simp [Act.eval, Act.put]) (by first | rfl | simp [Act.eval, Act.put]) ?_; rw [hw9])
    | fail "NONE")
  go_at_call 29
  refine (decode_no bl w9 (by omega) (HV.out _ HB9.out) HDB.out).mono ?_
  rintro e y1 ⟨rfl, hy1⟩
  have HY1 := Lib.hid (HB9.out.trans (hy1.mono HB9.out.size))
  obtain ⟨y2, hy2⟩ : ∃ y2, y1.alloc (.cells #[.int .i64 0, .int .i64 0, .slice none 0 0] 24) = y2 := ⟨_, rfl⟩
  have hB2 : Below y1.heap.size y1 y2 := by rw [← hy2]; exact (Below.refl _ _).alloc (Nat.le_refl _) _
  have hA2 : At y2 y1.heap.size 24 #[.int .i64 0, .int .i64 0, .slice none 0 0] := by rw [← hy2]; exact At.new _ _ _
  obtain ⟨z0, z1, z2⟩ := three_at hA2
  have HY2 := Lib.hid (HY1.out.trans (hB2.mono HY1.out.size))
  clear hB2 hA2 hy1
  go_wp2_with (first
    | (refine wpList_storeL rfl (.tmp 15) (.tmp 89) rfl y1 _ _ _ (by first | rfl | exact hy2.symm) 0 0 none 0 0 (by first | rfl | simp [Act.eval, Act.put]) (by first | rfl | simp [Act.eval, Act.put]) ?_; rw [hy2])
    | fail "NONE")
  go_at_call 17
  refine (lawSame_is 0 0 0 0 none none 0 0 0 0 [] [] true y2 rfl rfl (by omega) (by omega) SRd.nil SRd.nil (by simp)).mono ?_
  rintro e y3 ⟨rfl, hy3⟩
  have HY3 := Lib.hid (HY2.out.trans (hy3.mono HY2.out.size))
  clear hy3 z0 z1 z2 HY2 HY1 hy2
  go_wp2_with fail
  go_at_call 21
  refine (does_is y3 (VarT.of (HV.out _ HY3.out))).mono ?_
  rintro e y4 ⟨rfl, hy4⟩
  have HY4 := Lib.hid (HY3.out.trans (hy4.mono HY3.out.size))
  clear hy4 HY3
  go_wp2
  go_ret
  exact ⟨rfl, HY4.out⟩
end Go.Proofs.YtakckmelojobkaaDoor.sps

/-! SplicesForm: some of its ways. -/
namespace Go.Proofs.YtakckmelojobkaaDoor.sps
open Go.RowKit Go.Lib pce
set_option linter.unusedVariables false
set_option linter.unusedSimpArgs false
set_option linter.unnecessarySimpa false
set_option linter.unusedSectionVars false

set_option maxHeartbeats 8000000 in
set_option maxRecDepth 100000 in
theorem law8e (a d : Int) (tA : Option Addr) (m tc : Nat) (ins : List ByteArray) (bl : List UInt8) (u : Nat) (w : World) (ha1 : -9223372036854775808 ≤ a) (ha2 : a ≤ 9223372036854775807) (hd1 : -9223372036854775808 ≤ d) (hd2 : d ≤ 9223372036854775807)
    (hI : Lst w (· < w.heap.size) tA m tc ins) (hzI : ∀ z ∈ ins, z.size ≤ maxLen) (hmf : m ≤ maxLen) (hbl : bl.length ≤ 9223372036854775807) (hu : u < 65536) (hV0 : num.Vars w.heap.size w) (hb3 : bl.length ≤ 3000) (x y : Nat) (hax : a = x) (hdy : d = y) (hk : chk ins = 0) (hbe : ¬ bl = []) (a' d' : Nat) (ts' : List (List UInt8)) (hdb : dec bl = some (a', d', ts')) :
    Calls Tryd.prog 8 #[.agg #[.int .i64 a, .int .i64 d, .slice tA m tc], .string (B bl), .int .u16 u] w fun e w' => e = .returned (.bool true) ∧ Below w.heap.size w w' := by
  have hm := hI.len
  obtain ⟨wb, hwb⟩ : ∃ wb, w.alloc (.cells #[.int .i64 a, .int .i64 d, .slice tA m tc] 24) = wb := ⟨_, rfl⟩
  have hX0 : Below w.heap.size w wb ∧ At wb w.heap.size 24 #[.int .i64 a, .int .i64 d, .slice tA m tc] ∧ w.heap.size + 1 ≤ wb.heap.size := by
    subst hwb
    exact ⟨(Below.refl _ _).alloc (Nat.le_refl _) _, At.new _ _ _, by simp⟩
  have HX := Lib.hid hX0
  have C1 := Lib.hid (great tA tc w.heap.size m 100 3000 ins wb hm (by unfold maxLen at hmf; omega) (by omega) (by omega) hzI (hI.srd.below hX0.1))
  have HI := Lib.hid hI
  have HMM := Lib.hid hm
  have HV := Lib.hid (fun (W : World) (hB : Below w.heap.size w W) => (hV0.below hB).more hB.size)
  obtain ⟨b0, b1, b2⟩ := three_at hX0.2.1
  unfold maxLen at hmf
  clear hI hzI hm hX0 hV0
  have HDB := Lib.hid hdb
  obtain ⟨e1, e2, e3, e4⟩ := dec_iff.1 hdb
  obtain ⟨f1, f2⟩ := back_size hdb (by omega)
  have HDC := Lib.hid (show chk (ts'.map B) = 0 ∧ a' ≤ num.MX ∧ d' ≤ num.MX ∧ ts'.length ≤ 2000 ∧ tot (ts'.map B) ≤ 1000000 ∧ enc a' d' (num.bytesOf (ts'.map B)) = bl from ⟨e4, e2, e3, f1, f2, by rw [back_bytes, e1]⟩)
  clear e1 e2 e3 e4 f1 f2
  clear hdb
  subst hax hdy
  have hxm : x ≤ num.MX := by unfold num.MX; omega
  have hym : y ≤ num.MX := by unfold num.MX; omega
  have HK := Lib.hid hk
  obtain ⟨X, hX⟩ : ∃ X, enc x y (num.bytesOf ins) = X := ⟨_, rfl⟩
  have HXX := Lib.hid hX
  have HP := Lib.hid (show 0 < X.length by rw [← hX]; exact enc_two _ _ _)
  have HDX := Lib.hid (show dec X = some (x, y, num.bytesOf ins) by rw [← hX]; exact dec_enc hxm hym hk)
  have HBE := Lib.hid hbe
  clear hX hk hbe
  go_enter Tryd.func8, Tryd.ntmps8
  go_wp2_with fail
  go_at_call 9
  refine C1.out.mono ?_
  rintro e w1 ⟨hg, hw1⟩
  subst hw1
  rcases hg with rfl | ⟨rfl, g1, g2⟩
  · go_wp2
    all_goals
      go_ret
      exact ⟨rfl, HX.out.1⟩
  have hm3 : m ≤ 100 := by rw [HMM.out]; exact g1
  have HTT := Lib.hid g2
  clear C1 g1 g2
  have hXL : X.length ≤ 62100 := by rw [← HXX.out]; exact enc_size hxm hym (by rw [← HMM.out]; omega) (by have := HTT.out; omega)
  obtain ⟨q, hq⟩ : ∃ q, q = u % X.length := ⟨_, rfl⟩
  have hqx : q < X.length := by rw [hq]; exact Nat.mod_lt _ HP.out
  have hql : ((u : Int) % (X.length : Int)) = (q : Int) := by rw [hq, Int.natCast_emod]
  have HLS := Lib.hid (show dec (X.take q) = none by rw [← HXX.out]; exact dec_less (by rw [HXX.out]; exact hqx))
  have hxp : 0 < X.length := HP.out
  have hxe : (X == []) = false := by cases X with
    | nil => simp at hxp
    | cons c r => rfl
  have hxn : (X != []) = true := by rw [bne, hxe]; rfl
  have S1 := fun W => front_slice X q (by omega) W
  have S2 := fun W => add_B X bl (by omega) W
  clear hq
  go_wp2_with fail
  go_at_call 28
  refine (encode_yes x y tA m tc ins wb HK.out hxm hym HMM.out (by omega) (by have := HTT.out; omega) (HI.out.below HX.out.1).srd (VarT.of (HV.out _ HX.out.1))).mono ?_
  rw [HXX.out]
  rintro e w2 ⟨rfl, hB2⟩
  have HB2 := Lib.hid (HX.out.1.trans (hB2.mono HX.out.1.size))
  have HA2 := Lib.hid (HX.out.2.1.same (hB2.block _ HX.out.2.1.lt))
  clear b0 b1 b2 hB2 hwb
  go_wp2_with fail
  go_at_call 29
  refine (decode_yes X x y (num.bytesOf ins) w2 (by omega) (HV.out _ HB2.out) HDX.out).mono ?_
  rintro e w3 ⟨A3, c3, rfl, L3, hB3⟩
  have hil : (num.bytesOf ins).length = m := by unfold num.bytesOf; rw [List.length_map, HMM.out]
  rw [bytes_back] at L3
  rw [hil] at L3 ⊢
  clear hil
  have HB3 := Lib.hid (HB2.out.trans (hB3.mono HB2.out.size))
  have HA3 := Lib.hid (HA2.out.same (hB3.block _ HA2.out.lt))
  clear hB3 HB2 HA2
  obtain ⟨w4, hw4⟩ : ∃ w4, w3.alloc (.cells #[.int .i64 x, .int .i64 y, .slice A3 m c3] 24) = w4 := ⟨_, rfl⟩
  have hB4 : Below w3.heap.size w3 w4 := by rw [← hw4]; exact (Below.refl _ _).alloc (Nat.le_refl _) _
  have hA4 : At w4 w3.heap.size 24 #[.int .i64 x, .int .i64 y, .slice A3 m c3] := by rw [← hw4]; exact At.new _ _ _
  have hS4 := HA3.out.same (hB4.block _ HA3.out.lt)
  obtain ⟨b0, b1, b2⟩ := three_at hS4
  obtain ⟨t0, t1, t2⟩ := three_at hA4
  have HB4 := Lib.hid (HB3.out.trans (hB4.mono HB3.out.size))
  have L4 := Lib.hid (L3.out.below hB4)
  have HA4 := Lib.hid hS4
  clear hB4 hA4 hS4 HB3 HA3 L3
  go_wp2_with (first
    | (refine wpList_storeL rfl (.tmp 9) (.tmp 37) rfl w3 _ _ _ rfl x y A3 m c3 (by first | rfl | simp [Act.eval, Act.put]) (by first | rfl | simp [Act.eval, Act.put]) ?_; rw [hw4])
    | fail "NONE")
  go_at_call 17
  refine (lawSame_is x y x y A3 tA m c3 m tc ins ins true w4 HMM.out HMM.out (by omega) (by omega) L4.out.srd (HI.out.below HB4.out).srd (by simp)).mono ?_
  rintro e w5 ⟨rfl, hB5⟩
  have HB5 := Lib.hid (HB4.out.trans (hB5.mono HB4.out.size))
  clear hB5 HB4 L4 HA4 t0 t1 t2 b0 b1 b2 hw4
  go_wp2_with fail
  go_at_call 29
  refine (decode_no (X.take q) w5 (by have := List.length_take_le q X; omega) (HV.out _ HB5.out) HLS.out).mono ?_
  rintro e w6 ⟨rfl, hB6⟩
  have HB6 := Lib.hid (HB5.out.trans (hB6.mono HB5.out.size))
  obtain ⟨w7, hw7⟩ : ∃ w7, w6.alloc (.cells #[.int .i64 0, .int .i64 0, .slice none 0 0] 24) = w7 := ⟨_, rfl⟩
  have hB7 : Below w6.heap.size w6 w7 := by rw [← hw7]; exact (Below.refl _ _).alloc (Nat.le_refl _) _
  have HB7 := Lib.hid (HB6.out.trans (hB7.mono HB6.out.size))
  clear hB6 hB7 HB5 HB6
  go_wp2_with (first
    | (refine wpList_storeL rfl (.tmp 11) (.tmp 60) rfl w6 _ _ _ (by first | rfl | exact hw7.symm) 0 0 none 0 0 (by first | rfl | simp [Act.eval, Act.put]) (by first | rfl | simp [Act.eval, Act.put]) ?_; rw [hw7])
    | fail "NONE")
  go_at_call 29
  refine (decode_no (X ++ bl) w7 (by rw [List.length_append]; omega) (HV.out _ HB7.out) (by
    cases e : dec (X ++ bl) with
    | none => rfl
    | some z =>
      exact absurd (dec_more (a := x) (d := y) (ts := num.bytesOf ins) (r := bl) (by rw [HXX.out, e]; rfl)) HBE.out)).mono ?_
  rintro e w8 ⟨rfl, hB8⟩
  have HB8 := Lib.hid (HB7.out.trans (hB8.mono HB7.out.size))
  clear hB8 HB7 hw7
  obtain ⟨w9, hw9⟩ : ∃ w9, w8.alloc (.cells #[.int .i64 0, .int .i64 0, .slice none 0 0] 24) = w9 := ⟨_, rfl⟩
  have hB9 : Below w8.heap.size w8 w9 := by rw [← hw9]; exact (Below.refl _ _).alloc (Nat.le_refl _) _
  have HB9 := Lib.hid (HB8.out.trans (hB9.mono HB8.out.size))
  have hbb : (bl == []) = false := by simpa using HBE.out
  clear hB9 HB8
  go_wp2_with (first
    | (refine wpList_storeL rfl (.tmp 13) (.tmp 67) rfl w8 _ _ _ (by first | rfl | exact hw9.symm) 0 0 none 0 0 (by first | rfl | simp [Act.eval, Act.put]) (by first | rfl | simp [Act.eval, Act.put]) ?_; rw [hw9])
    | fail "NONE")
  go_at_call 29
  refine (decode_yes bl a' d' ts' w9 (by omega) (HV.out _ HB9.out) HDB.out).mono ?_
  rintro e y1 ⟨A9, c9, rfl, L9, hy1⟩
  have HY1 := Lib.hid (HB9.out.trans (hy1.mono HB9.out.size))
  obtain ⟨y2, hy2⟩ : ∃ y2, y1.alloc (.cells #[.int .i64 a', .int .i64 d', .slice A9 ts'.length c9] 24) = y2 := ⟨_, rfl⟩
  have hB2 : Below y1.heap.size y1 y2 := by rw [← hy2]; exact (Below.refl _ _).alloc (Nat.le_refl _) _
  have hA2 : At y2 y1.heap.size 24 #[.int .i64 a', .int .i64 d', .slice A9 ts'.length c9] := by rw [← hy2]; exact At.new _ _ _
  obtain ⟨z0, z1, z2⟩ := three_at hA2
  have HY2 := Lib.hid (HY1.out.trans (hB2.mono HY1.out.size))
  have M9 := Lib.hid (L9.out.below hB2)
  clear hB2 hA2 hy1 L9
  go_wp2_with (first
    | (refine wpList_storeL rfl (.tmp 15) (.tmp 89) rfl y1 _ _ _ (by first | rfl | exact hy2.symm) a' d' A9 ts'.length c9 (by first | rfl | simp [Act.eval, Act.put]) (by first | rfl | simp [Act.eval, Act.put]) ?_; rw [hy2])
    | fail "NONE")
  go_at_call 28
  refine (encode_yes a' d' A9 ts'.length c9 (ts'.map B) y2 HDC.out.1 HDC.out.2.1 HDC.out.2.2.1 (by rw [List.length_map]) (by have := HDC.out.2.2.2.1; omega) HDC.out.2.2.2.2.1 M9.out.srd (VarT.of (HV.out _ HY2.out))).mono ?_
  rw [HDC.out.2.2.2.2.2]
  rintro e y3 ⟨rfl, hy3⟩
  have HY3 := Lib.hid (HY2.out.trans (hy3.mono HY2.out.size))
  clear hy3 z0 z1 z2 HY2 HY1 hy2 M9
  go_wp2_with fail
  go_at_call 21
  refine (does_is y3 (VarT.of (HV.out _ HY3.out))).mono ?_
  rintro e y4 ⟨rfl, hy4⟩
  have HY4 := Lib.hid (HY3.out.trans (hy4.mono HY3.out.size))
  clear hy4 HY3
  go_wp2
  go_ret
  exact ⟨rfl, HY4.out⟩
end Go.Proofs.YtakckmelojobkaaDoor.sps

/-! SplicesForm, walked. -/
namespace Go.Proofs.YtakckmelojobkaaDoor.sps
open Go.RowKit Go.Lib pce
set_option linter.unusedVariables false
set_option linter.unusedSimpArgs false
set_option linter.unnecessarySimpa false
set_option linter.unusedSectionVars false

theorem law8 (t : Ct) (s : ByteArray) (u : Nat) (w : World) (ht : CtOk w (· < w.heap.size) t) (hs : s.size ≤ maxLen) (hu : u < 65536) (hV : num.Vars w.heap.size w) :
    Calls Tryd.prog 8 #[.agg #[.int .i64 t.a, .int .i64 t.d, .slice t.A t.ins.length t.c], .string s, .int .u16 u] w fun e w' => e = .returned (.bool true) ∧ Below w.heap.size w w' := by
  obtain ⟨bl, rfl⟩ : ∃ bl, s = B bl := ⟨_, (B_list s).symm⟩
  rw [B_size] at hs
  unfold maxLen at hs
  by_cases hb3 : bl.length ≤ 3000
  case neg => exact law8z t.a t.d t.A t.ins.length t.c t.ins bl u w ht.a1 ht.a2 ht.d1 ht.d2 ht.lst ht.size ht.few (by omega) hu hV (by omega)
  case pos =>
  obtain ⟨k, hk⟩ : ∃ k, chkS t.a t.d t.ins = k := ⟨_, rfl⟩
  by_cases hk0 : k = 0
  case neg =>
    cases hd : dec bl with
    | none => exact law8a t.a t.d t.A t.ins.length t.c t.ins bl u w ht.a1 ht.a2 ht.d1 ht.d2 ht.lst ht.size ht.few (by omega) hu hV hb3 k hk hk0 hd
    | some z =>
      obtain ⟨a', d', ts'⟩ := z
      exact law8b t.a t.d t.A t.ins.length t.c t.ins bl u w ht.a1 ht.a2 ht.d1 ht.d2 ht.lst ht.size ht.few (by omega) hu hV hb3 k hk hk0 a' d' ts' hd
  case pos =>
  subst hk0
  obtain ⟨g1, g2, g3⟩ := chkS_zero.1 hk
  have e1 : t.a = (t.a.toNat : Int) := by omega
  have e2 : t.d = (t.d.toNat : Int) := by omega
  by_cases hbe : bl = []
  · have hd : dec bl = none := by
      cases hd : dec bl with
      | none => rfl
      | some z =>
        obtain ⟨a', d', ts'⟩ := z
        have h1 := (dec_iff.1 hd).1
        have h2 := enc_two a' d' ts'
        rw [← h1, hbe] at h2
        simp at h2
    exact law8c t.a t.d t.A t.ins.length t.c t.ins bl u w ht.a1 ht.a2 ht.d1 ht.d2 ht.lst ht.size ht.few (by omega) hu hV hb3 _ _ e1 e2 (fine_chk.2 g3) hbe hd
  · cases hd : dec bl with
    | none => exact law8d t.a t.d t.A t.ins.length t.c t.ins bl u w ht.a1 ht.a2 ht.d1 ht.d2 ht.lst ht.size ht.few (by omega) hu hV hb3 _ _ e1 e2 (fine_chk.2 g3) hbe hd
    | some z =>
      obtain ⟨a', d', ts'⟩ := z
      exact law8e t.a t.d t.A t.ins.length t.c t.ins bl u w ht.a1 ht.a2 ht.d1 ht.d2 ht.lst ht.size ht.few (by omega) hu hV hb3 _ _ e1 e2 (fine_chk.2 g3) hbe a' d' ts' hd
end Go.Proofs.YtakckmelojobkaaDoor.sps
