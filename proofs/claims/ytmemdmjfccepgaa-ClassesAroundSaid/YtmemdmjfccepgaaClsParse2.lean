/- Classes: Parse. -/
import Derived.Test.YtmemdmjfccepgaaClsParse
namespace Go.Proofs.Ytmemdmjfccepgaa.cls
open Go.RowKit Go.Lib
set_option linter.unusedVariables false
set_option linter.unusedSimpArgs false
set_option linter.unnecessarySimpa false
set_option linter.unusedSectionVars false

theorem cutP (l : List UInt8) (d : UInt8) (r : List UInt8) (b : Bool) (hb : decide (l.head? = some d) = b) (hr : (if b = true then l.drop 1 else l) = r) (w : World) :
    Calls Try.prog 18 #[.string (B l), .string ⟨#[d]⟩] w fun e w' => e = .returned (.tuple #[.string (B r), .bool b]) ∧ w' = w := by
  have := Try.strings_CutPrefix (B l) ⟨#[d]⟩ w
  rw [list_B, show (⟨#[d]⟩ : ByteArray).data.toList = [d] from rfl] at this
  unfold Lib.trimPrefix at this
  rw [hp1_is, hb] at this
  rw [← hr]
  exact this

set_option maxHeartbeats 1000000 in
set_option maxRecDepth 100000 in
theorem opened_out (w : World) (l : List UInt8) (a : Int) (hl : l.length ≤ 1000000000) (h : ¬ (0 ≤ a ∧ a ≤ l.length)) (h1 : -9223372036854775808 ≤ a) (h2 : a ≤ 9223372036854775807) :
    Calls Try.prog 17 #[.string (B l), .int .i64 a] w fun e w' => e = .returned (.tuple #[.string ⟨#[]⟩, .bool false]) ∧ w' = w := by
  obtain ⟨m, hm⟩ : ∃ m, l.length = m := ⟨_, rfl⟩
  have hsz : (B l).size = m := by rw [B_size]; exact hm
  rw [hm] at h hl
  clear hm
  by_cases h0 : a < 0
  · go_enter Try.func17, Try.ntmps17
    go_wp2
    go_ret2
    exact ⟨rfl, rfl⟩
  · have hgt : (m : Int) < a := by omega
    clear h
    go_enter Try.func17, Try.ntmps17
    go_wp2
    go_ret2
    exact ⟨rfl, rfl⟩
set_option maxHeartbeats 1000000 in
set_option maxRecDepth 100000 in
theorem opened_in (w : World) (l : List UInt8) (a : Nat) (r : List UInt8) (b : Bool) (hl : l.length ≤ 1000000000) (h : a ≤ l.length) (hb : decide ((l.drop a).head? = some 91) = b) (hr : (if b = true then (l.drop a).drop 1 else l.drop a) = r) :
    Calls Try.prog 17 #[.string (B l), .int .i64 (a : Int)] w fun e w' => e = .returned (.tuple #[.string (B r), .bool b]) ∧ w' = w := by
  have C := Lib.hid (cutP (l.drop a) 91 r b hb hr w)
  have hsl := slice_drop l a a rfl h
  obtain ⟨m, hm⟩ : ∃ m, l.length = m := ⟨_, rfl⟩
  have hsz : (B l).size = m := by rw [B_size]; exact hm
  rw [hm] at h hl
  clear hm hb hr
  go_enter Try.func17, Try.ntmps17
  go_wp2_with fail
  go_at_call 18
  refine C.out.mono ?_
  rintro e w' ⟨rfl, rfl⟩
  go_wp2
  go_ret2
  exact ⟨rfl, rfl⟩

/-- What Parse tells. -/
def retP (l : List UInt8) : Option ((Nat → Bool) × List UInt8) → Value
  | none => .tuple #[.agg (arr noB), .int .i64 0, .int .i64 90]
  | some x => .tuple #[.agg (arr x.1), .int .i64 ((l.length : Int) - x.2.length), .int .i64 0]
theorem partsN_len : ∀ (n : Nat) (b : Bool) (f : Nat → Bool) (l : List UInt8) (x), partsN n b f l = some x → x.2.length ≤ l.length
  | 0, _, _, _, x, h => by cases h
  | n + 1, b, f, l, x, h => by
    unfold partsN at h
    split at h
    · simp only [Option.some.injEq] at h
      subst h
      show (l.drop 1).length ≤ _
      rw [List.length_drop]; omega
    · cases hp : partN l with
      | none => rw [hp] at h; cases h
      | some y =>
        rw [hp] at h
        have h1 := partN_len l y hp
        have h2 := partsN_len n false _ y.2 x h
        omega
theorem allN_len (f : Nat → Bool) (l : List UInt8) (x) (h : allN f l = some x) : x.2.length ≤ l.length := partsN_len _ _ _ _ x h
theorem parts_b (l : List UInt8) (R : Option ((Nat → Bool) × List UInt8)) (hR : allN noB l = R) (w : World) (hl : l.length ≤ 1000000000) (hV : Vs w.heap.size w) :
    Calls Try.prog 19 #[.string (B l)] w fun e w' => e = .returned (retParts R) ∧ Below w.heap.size w w' := by
  subst hR
  exact parts_is w l hl hV

set_option maxHeartbeats 4000000 in
set_option maxRecDepth 100000 in
theorem parse_is (w : World) (l : List UInt8) (a : Int) (hl : l.length ≤ 1000000000) (h1 : -9223372036854775808 ≤ a) (h2 : a ≤ 9223372036854775807) (hV : Vs w.heap.size w) :
    Calls Try.prog 10 #[.string (B l), .int .i64 a] w fun e w' => e = .returned (retP l (parseAt l a)) ∧ Below w.heap.size w w' := by
  obtain ⟨R, hR⟩ : ∃ R, parseAt l a = R := ⟨_, rfl⟩
  rw [hR]
  have HL := Lib.hid hl
  have HV := Lib.hid hV
  by_cases hin : 0 ≤ a ∧ a ≤ l.length
  · obtain ⟨k, rfl⟩ : ∃ k : Nat, a = k := ⟨a.toNat, by omega⟩
    have hk : k ≤ l.length := by omega
    have hpa : parseL (l.drop k) = R := by
      rw [← hR]
      unfold parseAt
      rw [if_pos hin, Int.toNat_natCast]
    have hdl : (l.drop k).length ≤ 1000000000 := by rw [List.length_drop]; omega
    cases hb : decide ((l.drop k).head? = some 91) with
    | false =>
      have hres : R = none := by
        rw [← hpa]
        unfold parseL
        rw [if_neg (of_decide_eq_false hb)]
      subst hres
      have C := Lib.hid (fun W => opened_in W l k _ false hl hk hb rfl)
      clear hR hpa hb hdl hl hV hin
      go_enter Try.func10, Try.ntmps10
      go_wp2_with (refine wpList_allocA rfl rfl ?_; intro w1 hs1 ha1 hb1)
      go_at_call 17
      refine (C.out _).mono ?_
      rintro e w2 ⟨rfl, rfl⟩
      go_wp2_with (first | (refine wpList_loadA rfl _ rfl _ rfl _ ha1 ?_) | (refine wpList_storeA rfl _ _ rfl _ _ rfl rfl _ ha1 ?_; intro w3 ha3 hb3))
      (try simp only [Exit.inBlock, Exit.then])
      refine bodyPost_ret (results_A3 rfl rfl ha3) rfl ?_
      exact ⟨rfl, hb1.trans (hb3.below (Nat.le_refl _))⟩
    | true =>
      have C := Lib.hid (fun W => opened_in W l k _ true hl hk hb rfl)
      have hdd : ((l.drop k).drop 1).length ≤ 1000000000 := by rw [List.length_drop]; omega
      simp only [if_true] at C
      cases hc : decide (((l.drop k).drop 1).head? = some 94) with
      | true =>
        have C2 := Lib.hid (fun W => cutP ((l.drop k).drop 1) 94 _ true hc rfl W)
        simp only [if_true] at C2
        have hdr : ((l.drop k).drop 1).drop 1 = (l.drop k).drop 2 := by rw [List.drop_drop]
        rw [hdr] at C2
        obtain ⟨T, hT⟩ : ∃ T, allN noB ((l.drop k).drop 2) = T := ⟨_, rfl⟩
        have hres : R = T.map fun x => (not1 x.1, x.2) := by
          rw [← hpa]
          unfold parseL
          rw [if_pos (of_decide_eq_true hb), if_pos (of_decide_eq_true hc), hT]
        have C3 := Lib.hid (fun (W : World) (hW : Vs W.heap.size W) => parts_b ((l.drop k).drop 2) T hT W (by rw [List.length_drop]; omega) hW)
        have hT2 : ∀ x, T = some x → x.2.length ≤ 1000000000 := fun x hx => by
          have := allN_len _ _ x (hT.trans hx)
          rw [List.length_drop, List.length_drop] at this
          omega
        obtain ⟨u, hu⟩ : ∃ u, (l.drop k).drop 1 = u := ⟨_, rfl⟩
        obtain ⟨v, hv⟩ : ∃ v, (l.drop k).drop 2 = v := ⟨_, rfl⟩
        rw [hu] at C C2
        rw [hv] at C2 C3
        clear hR hpa hb hc hdl hdd hdr hT hu hv hV hin
        cases T with
        | none =>
          have hres : R = none := hres
          subst hres
          clear hl hT2
          go_enter Try.func10, Try.ntmps10
          go_wp2_with (refine wpList_allocA rfl rfl ?_; intro w1 hs1 ha1 hb1)
          go_at_call 17
          refine (C.out _).mono ?_
          rintro e w2 ⟨rfl, rfl⟩
          go_wp2_with fail
          go_at_call 18
          refine (C2.out _).mono ?_
          rintro e w3 ⟨rfl, rfl⟩
          go_wp2_with fail
          go_at_call 19
          refine (C3.out _ ((HV.out.below hb1).more (by omega))).mono ?_
          rintro e w4 ⟨rfl, hb4⟩
          have ha4 := ha1.keep hb4 (by omega)
          simp only [retParts]
          go_wp2_with (first | (refine wpList_storeA rfl _ _ rfl _ _ rfl rfl _ ha4 ?_; intro w5 ha5 hb5) | (refine wpList_loadA rfl _ rfl _ rfl _ ha5 ?_) | (refine wpList_storeA rfl _ _ rfl _ _ rfl rfl _ ha5 ?_; intro w6 ha6 hb6))
          (try simp only [Exit.inBlock, Exit.then])
          refine bodyPost_ret (results_A3 rfl rfl ha6) rfl ?_
          exact ⟨rfl, ((hb1.trans (hb4.mono (by omega))).trans (hb5.below (Nat.le_refl _))).trans (hb6.below (Nat.le_refl _))⟩
        | some x =>
          obtain ⟨f, r⟩ := x
          have hres : R = some (not1 f, r) := hres
          subst hres
          have hrl : r.length ≤ 1000000000 := hT2 _ rfl
          obtain ⟨m, hm⟩ : ∃ m, l.length = m := ⟨_, rfl⟩
          have hsz : (B l).size = m := by rw [B_size]; exact hm
          have HM := Lib.hid hm
          obtain ⟨n, hn⟩ : ∃ n, r.length = n := ⟨_, rfl⟩
          have hsr : (B r).size = n := by rw [B_size]; exact hn
          have hnl : n ≤ 1000000000 := by rw [← hn]; exact hrl
          rw [hm] at hl
          have HN := Lib.hid hn
          clear hm hn hrl hT2
          go_enter Try.func10, Try.ntmps10
          go_wp2_with (refine wpList_allocA rfl rfl ?_; intro w1 hs1 ha1 hb1)
          go_at_call 17
          refine (C.out _).mono ?_
          rintro e w2 ⟨rfl, rfl⟩
          go_wp2_with fail
          go_at_call 18
          refine (C2.out _).mono ?_
          rintro e w3 ⟨rfl, rfl⟩
          go_wp2_with fail
          go_at_call 19
          refine (C3.out _ ((HV.out.below hb1).more (by omega))).mono ?_
          rintro e w4 ⟨rfl, hb4⟩
          have ha4 := ha1.keep hb4 (by omega)
          simp only [retParts]
          go_wp2_with (first | (refine wpList_storeA rfl _ _ rfl _ _ rfl rfl _ ha4 ?_; intro w5 ha5 hb5) | (refine wpList_loadA rfl _ rfl _ rfl _ ha5 ?_))
          go_at_call 20
          refine (others_is _ f).mono ?_
          rintro e w6 ⟨rfl, hb6⟩
          have hs5 := hb5.size
          have hs4 := hb4.size
          have ha6 := ha5.keep hb6 (by omega)
          go_wp2_with (first | (refine wpList_storeA rfl _ _ rfl _ _ rfl rfl _ ha6 ?_; intro w7 ha7 hb7) | (refine wpList_loadA rfl _ rfl _ rfl _ ha7 ?_) | (refine wpList_storeA rfl _ _ rfl _ _ rfl rfl _ ha7 ?_; intro w8 ha8 hb8))
          (try simp only [Exit.inBlock, Exit.then])
          refine bodyPost_ret (results_A3 rfl rfl ha8) rfl ?_
          refine ⟨?_, ((((hb1.trans (hb4.mono (by omega))).trans (hb5.below (Nat.le_refl _))).trans (hb6.mono (by omega))).trans (hb7.below (Nat.le_refl _))).trans (hb8.below (Nat.le_refl _))⟩
          have e9 : retP l (some ((not1 f), r)) = .tuple #[.agg (arr (not1 f)), .int .i64 ((m : Int) - n), .int .i64 0] := by
            unfold retP
            simp only [HM.out, HN.out]
          rw [e9]
          rfl
      | false =>
        have C2 := Lib.hid (fun W => cutP ((l.drop k).drop 1) 94 _ false hc rfl W)
        simp only [Bool.false_eq_true, if_false] at C2
        obtain ⟨T, hT⟩ : ∃ T, allN noB ((l.drop k).drop 1) = T := ⟨_, rfl⟩
        have hres : R = T := by
          rw [← hpa]
          unfold parseL
          rw [if_pos (of_decide_eq_true hb), if_neg (of_decide_eq_false hc), hT]
        have C3 := Lib.hid (fun (W : World) (hW : Vs W.heap.size W) => parts_b ((l.drop k).drop 1) T hT W hdd hW)
        have hT2 : ∀ x, T = some x → x.2.length ≤ 1000000000 := fun x hx => by
          have := allN_len _ _ x (hT.trans hx)
          rw [List.length_drop, List.length_drop] at this
          omega
        obtain ⟨u, hu⟩ : ∃ u, (l.drop k).drop 1 = u := ⟨_, rfl⟩
        rw [hu] at C C2 C3
        clear hR hpa hb hc hdl hdd hT hu hV hin
        subst hres
        cases R with
        | none =>
          clear hl hT2
          go_enter Try.func10, Try.ntmps10
          go_wp2_with (refine wpList_allocA rfl rfl ?_; intro w1 hs1 ha1 hb1)
          go_at_call 17
          refine (C.out _).mono ?_
          rintro e w2 ⟨rfl, rfl⟩
          go_wp2_with fail
          go_at_call 18
          refine (C2.out _).mono ?_
          rintro e w3 ⟨rfl, rfl⟩
          go_wp2_with fail
          go_at_call 19
          refine (C3.out _ ((HV.out.below hb1).more (by omega))).mono ?_
          rintro e w4 ⟨rfl, hb4⟩
          have ha4 := ha1.keep hb4 (by omega)
          simp only [retParts]
          go_wp2_with (first | (refine wpList_storeA rfl _ _ rfl _ _ rfl rfl _ ha4 ?_; intro w5 ha5 hb5) | (refine wpList_loadA rfl _ rfl _ rfl _ ha5 ?_) | (refine wpList_storeA rfl _ _ rfl _ _ rfl rfl _ ha5 ?_; intro w6 ha6 hb6))
          (try simp only [Exit.inBlock, Exit.then])
          refine bodyPost_ret (results_A3 rfl rfl ha6) rfl ?_
          exact ⟨rfl, ((hb1.trans (hb4.mono (by omega))).trans (hb5.below (Nat.le_refl _))).trans (hb6.below (Nat.le_refl _))⟩
        | some x =>
          obtain ⟨f, r⟩ := x
          have hrl : r.length ≤ 1000000000 := hT2 _ rfl
          obtain ⟨m, hm⟩ : ∃ m, l.length = m := ⟨_, rfl⟩
          have hsz : (B l).size = m := by rw [B_size]; exact hm
          have HM := Lib.hid hm
          obtain ⟨n, hn⟩ : ∃ n, r.length = n := ⟨_, rfl⟩
          have hsr : (B r).size = n := by rw [B_size]; exact hn
          have hnl : n ≤ 1000000000 := by rw [← hn]; exact hrl
          rw [hm] at hl
          have HN := Lib.hid hn
          clear hm hn hrl hT2
          go_enter Try.func10, Try.ntmps10
          go_wp2_with (refine wpList_allocA rfl rfl ?_; intro w1 hs1 ha1 hb1)
          go_at_call 17
          refine (C.out _).mono ?_
          rintro e w2 ⟨rfl, rfl⟩
          go_wp2_with fail
          go_at_call 18
          refine (C2.out _).mono ?_
          rintro e w3 ⟨rfl, rfl⟩
          go_wp2_with fail
          go_at_call 19
          refine (C3.out _ ((HV.out.below hb1).more (by omega))).mono ?_
          rintro e w4 ⟨rfl, hb4⟩
          have ha4 := ha1.keep hb4 (by omega)
          simp only [retParts]
          go_wp2_with (first | (refine wpList_storeA rfl _ _ rfl _ _ rfl rfl _ ha4 ?_; intro w5 ha5 hb5) | (refine wpList_loadA rfl _ rfl _ rfl _ ha5 ?_) | (refine wpList_storeA rfl _ _ rfl _ _ rfl rfl _ ha5 ?_; intro w6 ha6 hb6))
          (try simp only [Exit.inBlock, Exit.then])
          refine bodyPost_ret (results_A3 rfl rfl ha6) rfl ?_
          refine ⟨?_, ((hb1.trans (hb4.mono (by omega))).trans (hb5.below (Nat.le_refl _))).trans (hb6.below (Nat.le_refl _))⟩
          have e9 : retP l (some (f, r)) = .tuple #[.agg (arr f), .int .i64 ((m : Int) - n), .int .i64 0] := by
            unfold retP
            simp only [HM.out, HN.out]
          rw [e9]
          rfl
  · have hres : R = none := by
      rw [← hR]
      unfold parseAt
      rw [if_neg hin]
    subst hres
    have C := Lib.hid (fun W => opened_out W l a hl hin h1 h2)
    clear hR hl hV hin
    go_enter Try.func10, Try.ntmps10
    go_wp2_with (refine wpList_allocA rfl rfl ?_; intro w1 hs1 ha1 hb1)
    go_at_call 17
    refine (C.out _).mono ?_
    rintro e w2 ⟨rfl, rfl⟩
    go_wp2_with (first | (refine wpList_loadA rfl _ rfl _ rfl _ ha1 ?_) | (refine wpList_storeA rfl _ _ rfl _ _ rfl rfl _ ha1 ?_; intro w3 ha3 hb3))
    (try simp only [Exit.inBlock, Exit.then])
    refine bodyPost_ret (results_A3 rfl rfl ha3) rfl ?_
    exact ⟨rfl, hb1.trans (hb3.below (Nat.le_refl _))⟩
end Go.Proofs.Ytmemdmjfccepgaa.cls
