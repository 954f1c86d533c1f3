/- TemplatesCut, walked. -/
import Derived.Test.YtibflbepnlemmaaTplBytes
namespace Go.Proofs.Ytibflbepnlemmaa.tpl
open Go.RowKit Go.Lib
set_option linter.unusedVariables false
set_option linter.unusedSimpArgs false
set_option linter.unnecessarySimpa false
set_option linter.unusedSectionVars false

theorem last_at (l : List UInt8) (h0 : l ≠ []) (h : l.getLast? = some 92) : l.getD (l.length - 1) 0 = 92 := by
  rw [List.getLast?_eq_getElem?] at h
  simp [List.getD, h]

set_option maxHeartbeats 4000000 in
set_option maxRecDepth 100000 in
theorem law8 (l : List UInt8) (u : UInt8) (w : World) (hl : l.length ≤ maxLen) :
    Calls Try.prog 8 #[.string (B l), .int .u8 (u.toNat : Int)] w fun e w' => e = .returned (.bool true) ∧ Below w.heap.size w w' := by
  unfold maxLen at hl
  obtain ⟨m, hm⟩ : ∃ m, l.length = m := ⟨_, rfl⟩
  have hsz : (B l).size = m := by rw [B_size]; exact hm
  have HM := Lib.hid hm
  rw [hm] at hl
  clear hm
  by_cases hbig : 1000 < m
  · go_enter Try.func8, Try.ntmps8
    go_wp2
    go_ret
    exact ⟨rfl, Below.refl _ _⟩
  · have C1 := Lib.hid (fun W => parse_is l W (by rw [HM.out]; omega))
    have CD := Lib.hid (fun W => does_is W)
    have hll : l.length ≤ 1000 := by rw [HM.out]; omega
    cases hok : ok l with
    | false =>
      obtain ⟨h0, h1, h2⟩ := not_ok l hok
      have hpos : 0 < m := by rw [← HM.out]; exact List.length_pos_iff.2 h0
      have q0 : (l == ([] : List UInt8)) = false := by simpa using h0
      have ix := index_at l (m - 1) ((m : Int) - 1) (by omega) (by rw [HM.out]; omega)
      rw [← HM.out, last_at l h0 h1, HM.out] at ix
      have C2 := Lib.hid (fun W => parse_is (l ++ [u]) W (by simp; omega))
      have HO := Lib.hid (And.intro hok (h2 u))
      have ad := fun W => add_B l [u] (by simp; omega) W
      clear h1 h2 hok
      go_enter Try.func8, Try.ntmps8
      go_wp2_with fail
      go_at_call 9
      refine (C1.out _).mono ?_
      rintro e w1 ⟨hs1, hb1⟩
      obtain rfl := hs1.2 HO.out.1
      have H1 := Lib.hid hb1
      clear hs1 hb1 C1
      go_wp2_with (refine wpList_bytes1 rfl _ rfl u _ rfl rfl ?_; intro w2 hs2 hb2 hcv; have H2 := Lib.hid (H1.out.trans (hb2.mono H1.out.size)))
      go_at_call 9
      refine (C2.out _).mono ?_
      rintro e w3 ⟨hs3, hb3⟩
      obtain ⟨v, ps, rfl, _⟩ := hs3.1 HO.out.2
      have H3 := Lib.hid (H2.out.trans (hb3.mono H2.out.size))
      clear hs3 hb3 C2 hcv hb2 hs2
      go_wp2_with fail
      go_at_call 13
      refine (CD.out _).mono ?_
      rintro e w4 ⟨rfl, hb4⟩
      go_wp2
      go_ret
      exact ⟨rfl, H3.out.trans (hb4.mono H3.out.size)⟩
    | true =>
      have C2 := Lib.hid (fun W => parse_is (l ++ [92]) W (by simp; omega))
      have HO := Lib.hid (And.intro hok (ok_cut l hok))
      have ad := fun W => add_B l [92] (by simp; omega) W
      clear hok
      go_enter Try.func8, Try.ntmps8
      go_wp2_with fail
      go_at_call 9
      refine (C1.out _).mono ?_
      rintro e w1 ⟨hs1, hb1⟩
      obtain ⟨v, ps, rfl, _⟩ := hs1.1 HO.out.1
      have H1 := Lib.hid hb1
      clear hs1 hb1 C1
      go_wp2_with fail
      go_at_call 9
      refine (C2.out _).mono ?_
      rintro e w3 ⟨hs3, hb3⟩
      obtain rfl := hs3.2 HO.out.2
      have H3 := Lib.hid (H1.out.trans (hb3.mono H1.out.size))
      clear hs3 hb3 C2
      go_wp2_with fail
      go_at_call 13
      refine (CD.out _).mono ?_
      rintro e w4 ⟨rfl, hb4⟩
      go_wp2
      go_ret
      exact ⟨rfl, H3.out.trans (hb4.mono H3.out.size)⟩
theorem law8L (s : ByteArray) (k : Nat) (hk : k < 256) (w : World) (hl : s.size ≤ maxLen) :
    Calls Try.prog 8 #[.string s, .int .u8 (k : Int)] w fun e w' => e = .returned (.bool true) ∧ Below w.heap.size w w' := by
  have := law8 s.data.toList (UInt8.ofNat k) w (by rw [Array.length_toList]; exact hl)
  rw [B_list] at this
  have e : (UInt8.ofNat k).toNat = k := by simp; omega
  rwa [e] at this
end Go.Proofs.Ytibflbepnlemmaa.tpl
