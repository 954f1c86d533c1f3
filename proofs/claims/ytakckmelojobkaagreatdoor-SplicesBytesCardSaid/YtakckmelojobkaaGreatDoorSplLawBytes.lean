/- SplicesBytes, walked. -/
import Derived.Test.YtakckmelojobkaaGreatDoorSplRefDec
import Derived.Test.YtakckmelojobkaaGreatDoorSplRefEnc
import Derived.Test.YtakckmelojobkaaGreatDoorSplDoes
namespace Go.Proofs.YtakckmelojobkaaGreatDoor.sps
open Go.RowKit Go.Lib pce
set_option linter.unusedVariables false
set_option linter.unusedSimpArgs false
set_option linter.unnecessarySimpa false
set_option linter.unusedSectionVars false

theorem EncSays.res {a d : Int} {ins : List ByteArray} {k : Int} {w w' : World} {e : Ending} (h : EncSays a d ins k w e w') : e = .returned (.tuple #[.string (if k = 0 then B (enc a.toNat d.toNat (num.bytesOf ins)) else ⟨#[]⟩), .int .i64 k]) ∧ Below w.heap.size w w' := by
  obtain ⟨hB, ⟨h0, rfl⟩ | ⟨rfl, rfl⟩⟩ := h
  · exact ⟨by rw [if_neg h0], hB⟩
  · exact ⟨by rw [if_pos rfl], hB⟩
/-- What is told of bytes: two numbers, lines, an error. -/
def decR : Option (Nat × Nat × List (List UInt8)) → Int × Int × List ByteArray × Int
  | none => (0, 0, [], 40)
  | some (a, d, ts) => (a, d, ts.map B, 0)
theorem DecSays.res {l : List UInt8} {w w' : World} {e : Ending} (h : DecSays l w e w') : ∃ A n c, e = .returned (.tuple #[.agg #[.int .i64 (decR (dec l)).1, .int .i64 (decR (dec l)).2.1, .slice A n c], .int .i64 (decR (dec l)).2.2.2]) ∧ n = (decR (dec l)).2.2.1.length ∧ w'.ownsRow w.heap.size 9 1 (.slice A n c) n ((decR (dec l)).2.2.1.map Value.string) ∧ Below w.heap.size w w' := by
  obtain ⟨hB, h⟩ := h
  cases e1 : dec l with
  | none =>
    rw [e1] at h
    exact ⟨none, 0, 0, h, rfl, World.ownsRow_nil _ _ _ _, hB⟩
  | some x =>
    obtain ⟨a, d, ts⟩ := x
    rw [e1] at h
    obtain ⟨A, c, he, ho⟩ := h
    exact ⟨A, ts.length, c, he, by show ts.length = (ts.map B).length; rw [List.length_map], ho, hB⟩
theorem decR_few (l : List UInt8) : (decR (dec l)).2.2.1.length ≤ 2000 := by
  cases e : dec l with
  | none => simp [decR]
  | some x =>
    obtain ⟨a, d, ts⟩ := x
    have := (chk_few (dec_iff.1 e).2.2.2).1
    show (ts.map B).length ≤ 2000
    rw [List.length_map]; exact this

set_option maxHeartbeats 8000000 in
set_option maxRecDepth 100000 in
theorem law3a (a d : Int) (tA : Option Addr) (m tc : Nat) (ins : List ByteArray) (s : ByteArray) (w : World) (ha1 : -9223372036854775808 ≤ a) (ha2 : a ≤ 9223372036854775807) (hd1 : -9223372036854775808 ≤ d) (hd2 : d ≤ 9223372036854775807)
    (hI : Lst w (· < w.heap.size) tA m tc ins) (hzI : ∀ z ∈ ins, z.size ≤ maxLen) (hmf : m ≤ maxLen) (hs : s.size ≤ maxLen) (hV0 : num.Vars w.heap.size w) :
    Calls Tryz.prog 3 #[.agg #[.int .i64 a, .int .i64 d, .slice tA m tc], .string s] w fun e w' => e = .returned (.bool true) ∧ Below w.heap.size w w' := by
  have hmm := hI.len
  obtain ⟨wb, hwb⟩ : ∃ wb, w.alloc (.cells #[.int .i64 a, .int .i64 d, .slice tA m tc] 24) = wb := ⟨_, rfl⟩
  have hX0 : Below w.heap.size w wb ∧ At wb w.heap.size 24 #[.int .i64 a, .int .i64 d, .slice tA m tc] ∧ w.heap.size + 1 ≤ wb.heap.size := by
    subst hwb
    exact ⟨(Below.refl _ _).alloc (Nat.le_refl _) _, At.new _ _ _, by simp⟩
  have C2 := much_is (wb.alloc (.cells #[.int .i64 a, .int .i64 d, .slice tA ins.length tc] 24)) (fun _ => True) (some ⟨wb.heap.size, 0, none⟩) 1 1 [⟨a, d, tA, tc, ins⟩] 1 (by omega) rfl (by unfold maxLen; omega) (cuts_one' wb (fun b => True) ⟨a, d, tA, tc, ins⟩ ⟨ha1, ha2, hd1, hd2, by rw [← hmm]; exact (hI.below hX0.1).any, hzI, by rw [← hmm]; exact hmf⟩)
  rw [← hmm] at C2
  have HC2 := Lib.hid C2
  have HI := Lib.hid hI
  have HZ := Lib.hid hzI
  have HX := Lib.hid hX0
  have HMM := Lib.hid hmm
  have HV := Lib.hid (fun (W : World) (hB : Below w.heap.size w W) => (hV0.below hB).more hB.size)
  obtain ⟨b0, b1, b2⟩ := three_at hX0.2.1
  unfold maxLen at hmf hs
  clear hI hzI hX0 C2 hmm hV0
  go_enter Tryz.func3, Tryz.ntmps3
  go_wp2_with fail
  go_at_call 4
  refine HC2.out.mono ?_
  rintro e w2 ⟨hg, hw2⟩
  have hB2 : Below wb.heap.size wb w2 := by rw [← hw2]; exact (Below.refl _ _).alloc (Nat.le_refl _) _
  have B2 := Lib.hid (HX.out.1.trans (hB2.mono HX.out.1.size))
  have P2 := Lib.hid (HX.out.2.1.same (hB2.block _ HX.out.2.1.lt))
  clear hw2 HC2 hB2 b0 b1 b2 hwb
  obtain ⟨b0, b1, b2⟩ := three_at P2.out
  rcases hg with rfl | ⟨rfl, _, g2⟩
  · go_wp2
    all_goals
      go_ret
      exact ⟨rfl, B2.out⟩
  have hm3 : m ≤ 2100 := by rw [HMM.out]; exact (g2 ⟨a, d, tA, tc, ins⟩ (by simp)).1
  have HTT := Lib.hid (show tot ins ≤ 20000 from (g2 ⟨a, d, tA, tc, ins⟩ (by simp)).2)
  clear g2
  by_cases hs5 : 5000 < s.size
  · go_wp2
    go_ret
    exact ⟨rfl, B2.out⟩
  obtain ⟨k, hk⟩ : ∃ k, chkS a d ins = k := ⟨_, rfl⟩
  have HK := Lib.hid hk
  obtain ⟨X, hX⟩ : ∃ X : ByteArray, (if k = 0 then B (enc a.toNat d.toNat (num.bytesOf ins)) else ⟨#[]⟩) = X := ⟨_, rfl⟩
  have HXX := Lib.hid hX
  clear hk hX
  go_wp2_with fail
  go_at_call 5
  refine (encode_is a d tA m tc ins w2 k HK.out ha1 ha2 hd1 hd2 HMM.out (by omega) (by have := HTT.out; omega) (HI.out.below B2.out).srd (VarT.of (HV.out _ B2.out))).mono ?_
  rintro e w3 hE
  obtain ⟨rfl, hB3⟩ := hE.res
  rw [HXX.out]
  have B3 := Lib.hid (B2.out.trans (hB3.mono B2.out.size))
  have P3 := Lib.hid (P2.out.same (hB3.block _ P2.out.lt))
  clear hE hB3 b0 b1 b2 B2 P2
  obtain ⟨b0, b1, b2⟩ := three_at P3.out
  go_wp2_with fail
  go_at_call 6
  refine (refEncode_is a d tA m tc ins w3 k HK.out ha1 ha2 hd1 hd2 HMM.out (by omega) (by have := HTT.out; omega) HZ.out (HI.out.below B3.out).srd).mono ?_
  rintro e w4 hE
  obtain ⟨rfl, hB4⟩ := hE.res
  rw [HXX.out]
  have B4 := Lib.hid (B3.out.trans (hB4.mono B3.out.size))
  clear hE hB4 b0 b1 b2 B3 P3
  obtain ⟨l, hl⟩ : ∃ l, s.data.toList = l := ⟨_, rfl⟩
  have HL := Lib.hid hl
  have HFW := Lib.hid (decR_few l)
  obtain ⟨R, hR⟩ : ∃ R, decR (dec l) = R := ⟨_, rfl⟩
  obtain ⟨ra, rd, ri, rk⟩ := R
  have HR := Lib.hid hR
  rw [hR] at HFW
  have hri : ri.length ≤ 2000 := HFW.out
  clear hl hR
  go_wp2_with fail
  go_at_call 7
  refine (decode_is s w4 (by omega) (HV.out _ B4.out)).mono ?_
  rintro e w5 hE
  obtain ⟨A5, n5, c5, rfl, hn5, ho5, hB5⟩ := hE.res
  rw [HL.out, HR.out] at hn5 ho5 ⊢
  simp only at hn5 ho5 ⊢
  have B5 := Lib.hid (B4.out.trans (hB5.mono B4.out.size))
  have L5 := Lib.hid (lst_own hn5 ho5).any
  have hn5b : n5 ≤ 2000 := by rw [hn5]; exact hri
  clear hE hn5 ho5 hB5 B4
  obtain ⟨w6, hw6⟩ : ∃ w6, w5.alloc (.cells #[.int .i64 ra, .int .i64 rd, .slice A5 n5 c5] 24) = w6 := ⟨_, rfl⟩
  have hB6 : Below w5.heap.size w5 w6 := by rw [← hw6]; exact (Below.refl _ _).alloc (Nat.le_refl _) _
  have T6 := Lib.hid (show At w6 w5.heap.size 24 #[.int .i64 ra, .int .i64 rd, .slice A5 n5 c5] by rw [← hw6]; exact At.new _ _ _)
  have B6 := Lib.hid (B5.out.trans (hB6.mono B5.out.size))
  have L6 := Lib.hid (L5.out.below hB6)
  clear hB6 B5 L5
  go_wp2_with (first
    | (refine wpList_storeL rfl (.tmp 9) (.tmp 34) rfl w5 _ _ _ rfl ra rd A5 n5 c5 (by first | rfl | simp [Act.eval, Act.put]) (by first | rfl | simp [Act.eval, Act.put]) ?_; rw [hw6])
    | fail "NONE")
  go_at_call 8
  refine (refDecode_is s w6 (by omega)).mono ?_
  rintro e w7 hE
  obtain ⟨A7, n7, c7, rfl, hn7, ho7, hB7⟩ := hE.res
  rw [HL.out, HR.out] at hn7 ho7 ⊢
  simp only at hn7 ho7 ⊢
  have B7 := Lib.hid (B6.out.trans (hB7.mono B6.out.size))
  have L7 := Lib.hid (lst_own hn7 ho7).any
  have M7 := Lib.hid (L6.out.below hB7)
  have T7 := Lib.hid (T6.out.same (hB7.block _ T6.out.lt))
  have hn7b : n7 ≤ 2000 := by rw [hn7]; exact hri
  clear hE hn7 ho7 hB7 B6 L6 T6 hw6
  obtain ⟨w8, hw8⟩ : ∃ w8, w7.alloc (.cells #[.int .i64 ra, .int .i64 rd, .slice A7 n7 c7] 24) = w8 := ⟨_, rfl⟩
  have hB8 : Below w7.heap.size w7 w8 := by rw [← hw8]; exact (Below.refl _ _).alloc (Nat.le_refl _) _
  have U8 := Lib.hid (show At w8 w7.heap.size 24 #[.int .i64 ra, .int .i64 rd, .slice A7 n7 c7] by rw [← hw8]; exact At.new _ _ _)
  have B8 := Lib.hid (B7.out.trans (hB8.mono B7.out.size))
  have L8 := Lib.hid (L7.out.below hB8)
  have M8 := Lib.hid (M7.out.below hB8)
  have T8 := Lib.hid (T7.out.same (hB8.block _ T7.out.lt))
  obtain ⟨t0, t1, t2⟩ := three_at T8.out
  obtain ⟨u0, u1, u2⟩ := three_at U8.out
  clear hB8 B7 L7 M7 T7
  have hkk : (k == k) = true := by simp
  have hrr : (rk == rk) = true := by simp
  go_wp2_with (first
    | (refine wpList_storeL rfl (.tmp 11) (.tmp 39) rfl w7 _ _ _ rfl ra rd A7 n7 c7 (by first | rfl | simp [Act.eval, Act.put]) (by first | rfl | simp [Act.eval, Act.put]) ?_; rw [hw8])
    | fail "NONE")
  go_at_call 9
  refine (lawSame_is ra rd ra rd A5 A7 n5 c5 n7 c7 ri ri true w8 M8.out.len L8.out.len (by omega) (by omega) M8.out.srd L8.out.srd (by simp)).mono ?_
  rintro e w9 ⟨rfl, hB9⟩
  have B9 := Lib.hid (B8.out.trans (hB9.mono B8.out.size))
  clear hB9 B8 L8 M8 T8 U8 t0 t1 t2 u0 u1 u2 hw8
  go_wp2_with fail
  go_at_call 10
  refine (does_is w9 (VarT.of (HV.out _ B9.out))).mono ?_
  rintro e w10 ⟨rfl, hB10⟩
  have B10 := Lib.hid (B9.out.trans (hB10.mono B9.out.size))
  clear hB10 B9
  go_wp2
  go_ret
  exact ⟨rfl, B10.out⟩
theorem law3 (t : Ct) (s : ByteArray) (w : World) (ht : CtOk w (· < w.heap.size) t) (hs : s.size ≤ maxLen) (hV : num.Vars w.heap.size w) :
    Calls Tryz.prog 3 #[.agg #[.int .i64 t.a, .int .i64 t.d, .slice t.A t.ins.length t.c], .string s] w fun e w' => e = .returned (.bool true) ∧ Below w.heap.size w w' :=
  law3a t.a t.d t.A t.ins.length t.c t.ins s w ht.a1 ht.a2 ht.d1 ht.d2 ht.lst ht.size ht.few hs hV
end Go.Proofs.YtakckmelojobkaaGreatDoor.sps
