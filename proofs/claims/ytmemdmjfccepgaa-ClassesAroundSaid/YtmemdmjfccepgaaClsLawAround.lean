/- ClassesAround. -/
import Derived.Test.YtmemdmjfccepgaaClsExt
import Derived.Test.YtmemdmjfccepgaaClsDoes2
namespace Go.Proofs.Ytmemdmjfccepgaa.cls
open Go.RowKit Go.Lib
set_option linter.unusedVariables false
set_option linter.unusedSimpArgs false
set_option linter.unnecessarySimpa false
set_option linter.unusedSectionVars false

theorem extract_BA (s : ByteArray) (a b : Nat) : s.extract a b = B ((s.data.toList.drop a).take (b - a)) := by rw [← Lib.extract_data, B_list]
theorem slice_front (l q : List UInt8) (k : Nat) (hq : l.take k = q) (h : k ≤ l.length) (W : World) : (Instr.slice 9 (.string (B l)) none (some (.int .i64 (k : Int))) none).run Try.prog W = .ok (.string (B q)) W := by
  subst hq
  have e : (B l).extract 0 ((k : Int)).toNat = B (l.take k) := by
    rw [Int.toNat_natCast, extract_BA, list_B, List.drop_zero, Nat.sub_zero]
  rw [run_slice_string_h (P := Try.prog) W 9 (B l) Try.underlying9 .i64 (k : Int) (by omega) (by rw [B_size]; omega), e]
theorem index_b (l : List UInt8) (k : Nat) (ki : Int) (b : Nat) (hki : ki = k) (h : k < l.length) (hb : (l.getD k 0).toNat = b) (W : World) : (Instr.index 9 (.string (B l)) (.int .i64 ki)).run Try.prog W = .ok (.int .u8 (b : Int)) W := by
  subst hb
  exact index_at l k ki hki h W

set_option maxHeartbeats 4000000 in
set_option maxRecDepth 100000 in
theorem law5 (l a b : List UInt8) (w : World) (hl : l.length ≤ maxLen) (ha : a.length ≤ maxLen) (hb : b.length ≤ maxLen) (hV : Vs w.heap.size w) :
    Calls Try.prog 5 #[.string (B l), .string (B a), .string (B b)] w fun e w' => e = .returned (.bool true) ∧ Below w.heap.size w w' := by
  unfold maxLen at hl ha hb
  have HV := Lib.hid hV
  obtain ⟨m, hm⟩ : ∃ m, l.length = m := ⟨_, rfl⟩
  obtain ⟨ma, hma⟩ : ∃ m, a.length = m := ⟨_, rfl⟩
  obtain ⟨mb, hmb⟩ : ∃ m, b.length = m := ⟨_, rfl⟩
  have hsz : (B l).size = m := by rw [B_size]; exact hm
  have hsa : (B a).size = ma := by rw [B_size]; exact hma
  have hsb : (B b).size = mb := by rw [B_size]; exact hmb
  have HM := Lib.hid hm
  have HMA := Lib.hid hma
  have HMB := Lib.hid hmb
  rw [hm] at hl
  rw [hma] at ha
  rw [hmb] at hb
  clear hm hma hmb hV
  by_cases h1 : 300 < m
  · go_enter Try.func5, Try.ntmps5
    go_wp2
    go_ret
    exact ⟨rfl, Below.refl _ _⟩
  · by_cases h2 : 300 < ma
    · go_enter Try.func5, Try.ntmps5
      go_wp2
      go_ret
      exact ⟨rfl, Below.refl _ _⟩
    · by_cases h3 : 300 < mb
      · go_enter Try.func5, Try.ntmps5
        go_wp2
        go_ret
        exact ⟨rfl, Below.refl _ _⟩
      · cases hR : parseL l with
        | none =>
          have C1 := Lib.hid (fun (W : World) (hW : Vs W.heap.size W) => parse0 l none hR W (by rw [HM.out]; omega) hW)
          rw [retP_none] at C1
          clear hR
          go_enter Try.func5, Try.ntmps5
          go_wp2_with fail
          go_at_call 10
          refine (C1.out _ HV.out).mono ?_
          rintro e w1 ⟨rfl, hb1⟩
          have hz1 := hb1.size
          go_wp2_with (first | (refine wpList_allocA rfl rfl ?_; intro w2 hs2 ha2 hb2) | (refine wpList_storeA rfl _ _ rfl _ _ rfl rfl _ ha2 ?_; intro w3 ha3 hb3) | (refine wpList_loadM (by rfl) _ rfl _ rfl _ ha3 ?_) | (refine wpList_buildM (by rfl) rfl ?_) | (refine wpList_eqM (by rfl) _ _ _ rfl noB rfl rfl ?_) | fail)
          have HB3 := Lib.hid (hb1.trans ((hb2.mono hz1).trans (hb3.below hz1)))
          go_at_call 12
          refine (does_is _ ((HV.out.below HB3.out).more HB3.out.size)).mono ?_
          rintro e w7 ⟨rfl, hb7⟩
          go_wp2
          go_ret
          exact ⟨rfl, HB3.out.trans (hb7.mono HB3.out.size)⟩
        | some x =>
          obtain ⟨f, r⟩ := x
          obtain ⟨p, hp, hp2, hp3⟩ := parseL_ext l f r hR
          have C1 := Lib.hid (fun (W : World) (hW : Vs W.heap.size W) => parse0 l _ hR W (by rw [HM.out]; omega) hW)
          obtain ⟨n, hn⟩ : ∃ n, p.length + 1 = n := ⟨_, rfl⟩
          have hlen : m = n + r.length := by rw [← HM.out, hp]; simp; omega
          have hn1 : (l.length : Int) - r.length = (n : Int) := by rw [HM.out]; omega
          rw [retP_some, hn1] at C1
          have hnm : n ≤ m := by omega
          have hn3 : 3 ≤ n := by omega
          have htk : l.take n = p ++ [93] := by
            rw [hp, ← hn, show p ++ 93 :: r = (p ++ [93]) ++ r by simp, show p.length + 1 = (p ++ [93]).length by simp, List.take_left]
          have i9 := index_b l (n - 1) ((n : Int) - 1) 93 (by omega) (by rw [HM.out]; omega) (by
            have : l.getD (n - 1) 0 = 93 := by
              rw [hp, show n - 1 = p.length by omega]
              simp [List.getD]
            rw [this]; rfl)
          have sf := slice_front l _ n htk (by rw [HM.out]; exact hnm)
          obtain ⟨q, hq⟩ : ∃ q, p ++ [93] = q := ⟨_, rfl⟩
          rw [hq] at sf
          have lq : q.length = n := by rw [← hq]; simp; exact hn
          have sq : (B q).size = n := by rw [B_size]; exact lq
          have hu : B a ++ B q = B (a ++ q) := B_app a q
          obtain ⟨u, hu2⟩ : ∃ u, a ++ q = u := ⟨_, rfl⟩
          rw [hu2] at hu
          have lu : u.length = ma + n := by rw [← hu2, List.length_append, HMA.out, lq]
          have su : (B u).size = ma + n := by rw [B_size]; exact lu
          have hv : B u ++ B b = B (u ++ b) := B_app u b
          obtain ⟨v, hv2⟩ : ∃ v, u ++ b = v := ⟨_, rfl⟩
          rw [hv2] at hv
          have lv : v.length = ma + n + mb := by rw [← hv2, List.length_append, lu, HMB.out]
          have sv : (B v).size = ma + n + mb := by rw [B_size]; exact lv
          have hpa : parseAt v (ma : Int) = some (f, b) := by
            unfold parseAt
            rw [if_pos ⟨by omega, by omega⟩, Int.toNat_natCast]
            have : v.drop ma = p ++ 93 :: b := by
              rw [← hv2, ← hu2, ← hq, ← HMA.out, List.append_assoc, List.drop_left]
              simp
            rw [this]
            exact hp3 b
          have hev : retP v (some (f, b)) = .tuple #[.agg (arr f), .int .i64 ((ma : Int) + n), .int .i64 0] := by
            rw [retP_some, lv, HMB.out, show (((ma + n + mb : Nat) : Int) - (mb : Int)) = (ma : Int) + n by omega]
          have C2 := Lib.hid (fun (W : World) (hW : Vs W.heap.size W) => parse_b v (ma : Int) _ _ hpa hev (by omega) (by omega) (by omega) W hW)
          clear hR hp hp2 hp3 hn hlen hn1 htk hq hu2 hv2 hpa hev
          go_enter Try.func5, Try.ntmps5
          go_wp2_with fail
          go_at_call 10
          refine (C1.out _ HV.out).mono ?_
          rintro e w1 ⟨rfl, hb1⟩
          have hz1 := hb1.size
          go_wp2_with (first | (refine wpList_allocA rfl rfl ?_; intro w2 hs2 ha2 hb2) | (refine wpList_storeA rfl _ _ rfl _ _ rfl rfl _ ha2 ?_; intro w3 ha3 hb3))
          have q3 : w3.heap.size = w1.heap.size + 1 := by rw [hb3.size, hs2]
          have HB3 := Lib.hid (hb1.trans ((hb2.mono hz1).trans (hb3.below hz1)))
          have A3 := Lib.hid ha3
          clear ha2 hb2 ha3 hb3 hs2 hb1
          go_at_call 10
          refine (C2.out _ ((HV.out.below HB3.out).more HB3.out.size)).mono ?_
          rintro e w4 ⟨rfl, hb4⟩
          have hz4 := hb4.size
          go_wp2_with (first | (refine wpList_allocA rfl rfl ?_; intro w5 hs5 ha5 hb5) | (refine wpList_storeA rfl _ _ rfl _ _ rfl rfl _ ha5 ?_; intro w6 ha6 hb6; have hA1 := ((A3.out.keep hb4 (by omega)).keep hb5 (by omega)).but hb6 (by omega)) | (refine wpList_loadM (by rfl) _ rfl _ rfl _ hA1 ?_) | (refine wpList_loadM (by rfl) _ rfl _ rfl _ ha6 ?_) | (refine wpList_eqM (by rfl) _ _ _ rfl f rfl rfl ?_) | fail)
          have HB6 := Lib.hid (HB3.out.trans ((hb4.mono HB3.out.size).trans ((hb5.mono (by omega)).trans (hb6.below (by omega)))))
          go_at_call 12
          refine (does_is _ ((HV.out.below HB6.out).more HB6.out.size)).mono ?_
          rintro e w7 ⟨rfl, hb7⟩
          go_wp2
          go_ret
          exact ⟨rfl, HB6.out.trans (hb7.mono HB6.out.size)⟩
theorem law5L (s a b : ByteArray) (w : World) (hl : s.size ≤ maxLen) (ha : a.size ≤ maxLen) (hb : b.size ≤ maxLen) (hV : Vs w.heap.size w) :
    Calls Try.prog 5 #[.string s, .string a, .string b] w fun e w' => e = .returned (.bool true) ∧ Below w.heap.size w w' := by
  have := law5 s.data.toList a.data.toList b.data.toList w (by rw [Array.length_toList]; exact hl) (by rw [Array.length_toList]; exact ha) (by rw [Array.length_toList]; exact hb) hV
  rwa [B_list, B_list, B_list] at this
end Go.Proofs.Ytmemdmjfccepgaa.cls
