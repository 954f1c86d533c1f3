/- FramesRebuild and FramesWalk, walked. -/
import Derived.Test.YtljpclfeogiohaaGreatDoorFrmLawMade
namespace Go.Proofs.YtljpclfeogiohaaGreatDoor.frm
open Go.RowKit Go.Lib

theorem map_getD (ps : List (List UInt8)) (i : Nat) (h : i < ps.length) : (ps.map B).getD i ByteArray.empty = B ps[i] := by
  simp [List.getD, List.getElem?_eq_getElem h]
theorem frs_mem : ∀ {ps : List (List UInt8)} {i : Nat} (h : i < ps.length), ps[i].length + 11 ≤ (frs ps).length
  | p :: ps, 0, _ => by
    rw [frs_cons, List.length_append, List.getElem_cons_zero, frameL_length]; have := num.putN_len2 p.length; omega
  | p :: ps, i + 1, h => by
    rw [frs_cons, List.length_append, List.getElem_cons_succ]; have := frs_mem (ps := ps) (i := i) (by simpa using h); omega
theorem frs_take_le (ps : List (List UInt8)) (i : Nat) : (frs (ps.take i)).length ≤ (frs ps).length := by
  have : frs ps = frs (ps.take i) ++ frs (ps.drop i) := by rw [← frs_append, List.take_append_drop]
  rw [this, List.length_append]; omega
theorem front_slice (s : ByteArray) (x : List UInt8) (k : Nat) (hk : k = x.length) (h : s.data.toList.take k = x) (hle : k ≤ s.size) (W : World) : (Instr.slice 9 (.string s) none (some (.int .i64 (k : Int))) none).run Tryz.prog W = .ok (.string (B x)) W := by
  have e : s.extract 0 ((k : Int)).toNat = B x := by
    rw [num.extract_B, Int.toNat_natCast, List.drop_zero, Nat.sub_zero, h]
  rw [run_slice_string_h (P := Tryz.prog) W 9 s Tryz.underlying9 .i64 (k : Int) (by omega) (by omega), e]

set_option maxHeartbeats 4000000 in
set_option maxRecDepth 100000 in
theorem law5 (s : ByteArray) (w : World) (hs : s.size ≤ maxLen) (hV : Vars w.heap.size w) :
    Calls Tryz.prog 5 #[.string s] w fun e w' => e = .returned (.bool true) ∧ Below w.heap.size w w' := by
  unfold maxLen at hs
  have DD := stands_at hV
  by_cases h1 : 15000 < s.size
  · clear hV
    go_enter Tryz.func5, Tryz.ntmps5
    go_wp2_with fail
    go_at_call 12
    refine (DD.out w (Below.refl _ _)).mono ?_
    rintro e w1 ⟨rfl, HB⟩
    go_wp2
    go_ret
    exact ⟨rfl, HB⟩
  have C1 := Lib.hid (whole17 s w (by omega) hV)
  have CF : Hid (∀ (p : ByteArray), p.size ≤ 1000000 → ∀ W, Below w.heap.size w W → Calls Tryz.prog 13 #[.string p] W fun e w' => e = retR (B (frameL p.data.toList)) ∧ Below W.heap.size W w') := Lib.hid (fun p hp W hW => frame13 p W hp (hV.next hW))
  have CN := Lib.hid (fun (k : Nat) W (hW : Below w.heap.size w W) => next15 s k W (by omega) (hV.next hW))
  clear hV
  go_enter Tryz.func5, Tryz.ntmps5
  go_wp2_with fail
  go_at_call 17
  refine C1.out.mono ?_
  rintro e w1 ⟨HB1, ps, A, n, c, k, hw1, hn1, hk1, hc1, hm1, rfl, hr1⟩
  have HW := Lib.hid hw1
  have HN := Lib.hid hn1
  have HK := Lib.hid hk1
  have HR := Lib.hid hr1
  have hks : k ≤ s.size := by have := hw1.length_le; rw [size_list] at this; omega
  have hnk : n ≤ k := by have := frs_count ps; omega
  have hz1 := HB1.size
  have SL := Lib.hid (front_slice s (frs ps) k hk1 (by rw [hk1]; exact hw1.front) hks)
  have hkl : (frs ps).length = k := hk1.symm
  clear hw1 hn1 hk1 hc1 hm1 hr1 C1
  go_wp2_with fail
  go_loopg [5, 6] n (fun g s5 s6 wr => ∃ (i : Nat) (x : List UInt8), i ≤ n ∧ n - i ≤ g ∧ s6 = .int .i64 i ∧ s5 = .string (B x) ∧ Hid (x = frs (ps.take i)) ∧ Below w1.heap.size w1 wr)
  case atStart => exact ⟨0, [], Nat.zero_le _, by omega, rfl, rfl, Lib.hid rfl, Below.refl _ _⟩
  case round =>
    obtain ⟨i, x, hi, hg, rfl, rfl, HX, hbw⟩ := hrel
    have HBr := HB1.trans (hbw.mono hz1)
    have hxk : x.length ≤ k := by rw [HX.out, ← hkl]; exact frs_take_le ps i
    by_cases hlt : i < n
    · obtain ⟨b, o, rfl, hb, hc⟩ := HR.out (by rw [List.length_map, ← HN.out]; omega)
      have hip : i < ps.length := by rw [← HN.out]; exact hlt
      have g1 : wr.cell? ⟨b, o + i, none⟩ = some (.string (B ps[i])) := by
        rw [hbw.cell (p := ⟨b, o + i, none⟩) hb, hc i (by rw [List.length_map]; exact hip), map_getD ps i hip]
      have hpi := frs_mem hip
      have F := Lib.hid (CF.out (B ps[i]) (by rw [B_size]; omega) wr HBr)
      have HX2 := Lib.hid ((frs_take_succ hip).trans (congrArg (· ++ frameL ps[i]) HX.out.symm))
      rw [list_B] at F
      have hfl : (frameL ps[i]).length ≤ 1000000 := by
        have := frameL_le (p := ps[i]) (by unfold num.MX; omega); omega
      unfold retR at F
      generalize frameL ps[i] = f at F HX2 hfl
      generalize ps[i] = p at F g1
      clear hc hpi hip hb
      go_wp2_with fail
      go_at_call 13
      refine F.out.mono ?_
      rintro e w2 ⟨rfl, hB2⟩
      have hbw2 := hbw.trans (hB2.mono hbw.size)
      clear F g1
      go_wp2
      go_roundg (n - (i + 1))
      case measure => omega
      case rel => exact ⟨i + 1, x ++ f, by omega, by omega, by go_num, by rw [← B_append], Lib.hid HX2.out.symm, hbw2⟩
    · obtain rfl : i = n := by omega
      have hx : x = frs ps := by rw [HX.out, HN.out, List.take_length]
      subst hx
      have N := Lib.hid (CN.out k wr HBr)
      have hnone : nextAt s.data.toList k = none := by
        rw [nextAt_nat (by rw [size_list]; exact hks), HK.out]; exact HW.out.rest
      rw [hnone] at N
      simp only [retF] at N
      have SL2 := SL.out
      clear hnone HX SL HR HW HN HK CF CN
      generalize frs ps = x at hxk hkl SL2
      have e1 : (x == x) = true := by simp
      go_wp2_with fail
      go_at_call 15
      refine N.out.mono ?_
      rintro e w2 ⟨rfl, hB2⟩
      have HB2 := HBr.trans (hB2.mono HBr.size)
      go_wp2_with fail
      go_at_call 12
      refine (DD.out w2 HB2).mono ?_
      rintro e w3 ⟨rfl, HB3⟩
      go_wp2
      go_ret
      exact ⟨rfl, HB3⟩

set_option maxHeartbeats 4000000 in
set_option maxRecDepth 100000 in
theorem law6 (s : ByteArray) (w : World) (hs : s.size ≤ maxLen) (hV : Vars w.heap.size w) :
    Calls Tryz.prog 6 #[.string s] w fun e w' => e = .returned (.bool true) ∧ Below w.heap.size w w' := by
  unfold maxLen at hs
  have DD := stands_at hV
  by_cases h1 : 15000 < s.size
  · clear hV
    go_enter Tryz.func6, Tryz.ntmps6
    go_wp2_with fail
    go_at_call 12
    refine (DD.out w (Below.refl _ _)).mono ?_
    rintro e w1 ⟨rfl, HB⟩
    go_wp2
    go_ret
    exact ⟨rfl, HB⟩
  have C1 := Lib.hid (whole17 s w (by omega) hV)
  have CN := Lib.hid (fun (k : Nat) W (hW : Below w.heap.size w W) => next15 s k W (by omega) (hV.next hW))
  clear hV
  go_enter Tryz.func6, Tryz.ntmps6
  go_wp2_with fail
  go_at_call 17
  refine C1.out.mono ?_
  rintro e w1 ⟨HB1, ps, A, n, c, k, hw1, hn1, hk1, hc1, hm1, rfl, hr1⟩
  have HW := Lib.hid hw1
  have HN := Lib.hid hn1
  have HK := Lib.hid hk1
  have HR := Lib.hid hr1
  have hks : k ≤ s.size := by have := hw1.length_le; rw [size_list] at this; omega
  have hnk : n ≤ k := by have := frs_count ps; omega
  have hz1 := HB1.size
  have hkl : (frs ps).length = k := hk1.symm
  clear hw1 hn1 hk1 hc1 hm1 hr1 C1
  go_wp2_with fail
  go_loopg [5, 6] n (fun g s5 s6 wr => ∃ (i q : Nat), i ≤ n ∧ n - i ≤ g ∧ s6 = .int .i64 i ∧ s5 = .int .i64 q ∧ q ≤ k ∧ Hid (q = (frs (ps.take i)).length) ∧ Below w1.heap.size w1 wr)
  case atStart => exact ⟨0, 0, Nat.zero_le _, by omega, rfl, rfl, Nat.zero_le _, Lib.hid rfl, Below.refl _ _⟩
  case round =>
    obtain ⟨i, q, hi, hg, rfl, rfl, hqk, HX, hbw⟩ := hrel
    have HBr := HB1.trans (hbw.mono hz1)
    by_cases hlt : i < n
    · obtain ⟨b, o, rfl, hb, hc⟩ := HR.out (by rw [List.length_map, ← HN.out]; omega)
      have hip : i < ps.length := by rw [← HN.out]; exact hlt
      have N := Lib.hid (CN.out q wr HBr)
      have hsome : nextAt s.data.toList q = some ps[i] := by
        rw [nextAt_nat (by rw [size_list]; omega), HX.out]; exact HW.out.at_k hip
      rw [hsome] at N
      simp only [retF] at N
      have hf := frameL_pos ps[i]
      have HX2 : Hid (q + (frameL ps[i]).length = (frs (ps.take (i + 1))).length) := Lib.hid (by rw [frs_take_succ hip, List.length_append, HX.out])
      have hq2 : q + (frameL ps[i]).length ≤ k := by rw [HX2.out, ← hkl]; exact frs_take_le ps (i + 1)
      have g0 : w1.cell? ⟨b, o + i, none⟩ = some (.string (B ps[i])) := by
        rw [hc i (by rw [List.length_map]; exact hip), map_getD ps i hip]
      generalize (frameL ps[i]).length = m at N hf HX2 hq2
      generalize ps[i] = p at N g0
      have e1 : (p == p) = true := by simp
      clear hc hip hsome
      go_wp2_with fail
      go_at_call 15
      refine N.out.mono ?_
      rintro e w2 ⟨rfl, hB2⟩
      have hbw2 := hbw.trans (hB2.mono hbw.size)
      have g2 : w2.cell? ⟨b, o + i, none⟩ = some (.string (B p)) := (hbw2.cell (p := ⟨b, o + i, none⟩) hb).trans g0
      clear N g0 hB2
      go_wp2
      go_roundg (n - (i + 1))
      case measure => omega
      case rel => exact ⟨i + 1, q + m, by omega, by omega, by go_num, by go_num, hq2, HX2, hbw2⟩
    · obtain rfl : i = n := by omega
      have hq : q = k := by rw [HX.out, HN.out, List.take_length, hkl]
      subst hq
      clear HX HR HW HN HK CN
      go_wp2_with fail
      go_at_call 12
      refine (DD.out wr HBr).mono ?_
      rintro e w3 ⟨rfl, HB3⟩
      go_wp2
      go_ret
      exact ⟨rfl, HB3⟩
end Go.Proofs.YtljpclfeogiohaaGreatDoor.frm
