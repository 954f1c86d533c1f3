/- FramesTurned, walked. -/
import Derived.Test.YtljpclfeogiohaaGreatDoorFrmLawWalk
import Derived.Lib.ConvBytes
import Derived.Lib.SmallJoins
import Derived.Laws.BitsAllLaws
import Derived.Laws.IdiomStrings
namespace Go.Proofs.YtljpclfeogiohaaGreatDoor.frm
open Go.RowKit Go.Lib

theorem xor_ne (d c : UInt8) (h : c ≠ 0) : d ^^^ c ≠ d := fun e => by
  have h2 := congrArg (fun x => d ^^^ x) e
  simp only [← UInt8.xor_assoc, UInt8.xor_self, UInt8.zero_xor] at h2
  exact h h2
theorem xor_byte (d c : UInt8) : bits .xor .u8 (d.toNat : Int) (c.toNat : Int) = ((d ^^^ c).toNat : Int) := by
  rw [u8_xor_nat d.toNat c.toNat d.toNat_lt c.toNat_lt, UInt8.toNat_xor]
theorem bytes_frozen (w : World) (s : ByteArray) (i : Nat) (h : i < s.size) : (Lib.bytesWorld w 5 s).frozen? ⟨w.heap.size, i, none⟩ = false := by
  simp [World.frozen?, Lib.bytesWorld_at_new, Lib.bytesCells]
  omega
theorem bytes_cell (w : World) (X : List UInt8) (i : Nat) (h : i < X.length) : (Lib.bytesWorld w 5 (B X)).cell? ⟨w.heap.size, i, none⟩ = some (.int .u8 ((X[i]).toNat : Int)) := by
  rw [Lib.bytesWorld_cell w 5 (B X) i (by rw [B_size]; exact h), list_B]
  simp [List.getD, List.getElem?_eq_getElem h]
theorem bytes_back (w : World) (X : List UInt8) (i : Nat) (e : UInt8) (N cap : Nat) (hN : N = X.length) (h : i < X.length) :
    (convert 40 9 (.slice (some ⟨w.heap.size, 0, none⟩) N cap)).run Tryz.prog ((Lib.bytesWorld w 5 (B X)).setCell ⟨w.heap.size, i, none⟩ (.int .u8 (e.toNat : Int)))
      = .ok (.string (B (X.set i e))) ((Lib.bytesWorld w 5 (B X)).setCell ⟨w.heap.size, i, none⟩ (.int .u8 (e.toNat : Int))) := by
  subst hN
  have := run_convert_bytes_back (P := Tryz.prog) ((Lib.bytesWorld w 5 (B X)).setCell ⟨w.heap.size, i, none⟩ (.int .u8 (e.toNat : Int))) 40 9 5 ⟨w.heap.size, 0, none⟩ cap (X.set i e)
    Tryz.underlying40 Tryz.underlying5 Tryz.underlying9 (fun j hj => by
      rw [Lib.add_plain, Nat.zero_add]
      rw [List.length_set] at hj
      by_cases hji : j = i
      · subst hji
        rw [World.cell?_setCell_same _ _ _ (by rw [bytes_cell w X j h])]
        simp
      · rw [World.cell?_setCell_other _ _ _ _ (fun h => hji (by injection h with _ h2 _; exact h2.symm)), bytes_cell w X j hj]
        rw [List.getElem_set_ne (fun h => hji h.symm)])
  rw [List.length_set] at this
  exact this
/-- The text with the byte turned: the first frame is found, no other one. -/
theorem turned_text (a p : ByteArray) (r : Nat) (e : UInt8) (ha : a.size ≤ MF) (hr : r < p.size + 9) (i : Nat) (hi : i = (frameL a.data.toList).length + (num.putN p.size).length + r)
    (he : ∀ h, e ≠ (frameL a.data.toList ++ frameL p.data.toList)[i]'h) : IsWhole ((frameL a.data.toList ++ frameL p.data.toList).set i e) [a.data.toList] := by
  have hlen : r < (p.data.toList ++ tailL p.data.toList).length := by rw [List.length_append, tailL_length, size_list]; exact hr
  have e1 : frameL p.data.toList = num.putN p.size ++ (p.data.toList ++ tailL p.data.toList) := by
    unfold frameL num.putT; rw [size_list p, List.append_assoc]
  have e2 : (frameL a.data.toList ++ frameL p.data.toList).set i e = frameL a.data.toList ++ (num.putN p.size ++ (p.data.toList ++ tailL p.data.toList).set r e) := by
    rw [e1, List.set_append_right _ _ (by omega), List.set_append_right _ _ (by omega), hi]
    congr 3; omega
  rw [e2, ← size_list p]
  refine turned_whole a.data.toList p.data.toList r e (by rw [size_list]; exact ha) hlen (fun h => ?_)
  have hil : i < (frameL a.data.toList ++ frameL p.data.toList).length := by
    rw [List.length_append, e1, List.length_append]; omega
  refine he hil ?_
  rw [h]
  have q1 : (frameL a.data.toList ++ frameL p.data.toList)[i]? = some (p.data.toList ++ tailL p.data.toList)[r] := by
    rw [e1, List.getElem?_append_right (by omega), List.getElem?_append_right (by omega), ← List.getElem?_eq_getElem hlen]
    congr 1; omega
  rw [List.getElem?_eq_getElem hil] at q1
  exact (Option.some.inj q1).symm

set_option maxHeartbeats 4000000 in
set_option maxRecDepth 100000 in
theorem law11 (a p : ByteArray) (u : Nat) (c : UInt8) (w : World) (ha : a.size ≤ maxLen) (hp : p.size ≤ maxLen) (hu : u < 65536) (hV : Vars w.heap.size w) :
    Calls Tryz.prog 11 #[.agg #[.string a, .string p], .int .u16 u, .int .u8 (c.toNat : Int)] w fun e w' => e = .returned (.bool true) ∧ Below w.heap.size w w' := by
  unfold maxLen at ha hp
  have DD := stands_at hV
  have HV := Lib.hid hV
  clear hV
  obtain ⟨wb, hwb⟩ : ∃ wb, wb = w.alloc (.cells #[.string a, .string p] 39) := ⟨_, rfl⟩
  have hB0 : Below w.heap.size w wb := by rw [hwb]; exact (Below.refl _ w).alloc (Nat.le_refl _) _
  have e0 : wb.cell? ⟨w.heap.size, 0, none⟩ = some (.string a) := by
    rw [hwb]; have hb := heap_alloc_new w (.cells #[.string a, .string p] 39); rw [cell_of_row _ _ _ _ _ _ hb]; rfl
  have e1 : wb.cell? ⟨w.heap.size, 1, none⟩ = some (.string p) := by
    rw [hwb]; have hb := heap_alloc_new w (.cells #[.string a, .string p] 39); rw [cell_of_row _ _ _ _ _ _ hb]; rfl
  have HWB := Lib.hid hwb
  clear hwb
  have stop : ∀ b : Bool, ((c.toNat : Int) == 0) = b → (b = true ∨ 8000 < a.size ∨ 8000 < p.size) → Calls Tryz.prog 11 #[.agg #[.string a, .string p], .int .u16 u, .int .u8 (c.toNat : Int)] w fun e w' => e = .returned (.bool true) ∧ Below w.heap.size w w' := by
    intro b hb hor
    have D := DD.out
    by_cases h1 : 8000 < a.size
    · clear hor
      go_enter Tryz.func11, Tryz.ntmps11
      go_wp2_with fail
      rw [← HWB.out]
      go_quiet (fail)
      go_wp2_with fail
      go_at_call 12
      refine (D _ (below_drewN hB0 _)).mono ?_
      rintro e w1 ⟨rfl, HB⟩
      go_wp2
      go_ret
      exact ⟨rfl, HB⟩
    by_cases h2 : 8000 < p.size
    · clear hor
      go_enter Tryz.func11, Tryz.ntmps11
      go_wp2_with fail
      rw [← HWB.out]
      go_quiet (fail)
      go_wp2_with fail
      go_at_call 12
      refine (D _ (below_drewN hB0 _)).mono ?_
      rintro e w1 ⟨rfl, HB⟩
      go_wp2
      go_ret
      exact ⟨rfl, HB⟩
    obtain rfl : b = true := by rcases hor with h | h | h; exact h; exact absurd h h1; exact absurd h h2
    go_enter Tryz.func11, Tryz.ntmps11
    go_wp2_with fail
    rw [← HWB.out]
    go_quiet (fail)
    go_wp2_with fail
    go_at_call 12
    refine (D _ (below_drewN hB0 _)).mono ?_
    rintro e w1 ⟨rfl, HB⟩
    go_wp2
    go_ret
    exact ⟨rfl, HB⟩
  rcases hc0 : ((c.toNat : Int) == 0) with _ | _
  case true => exact stop true hc0 (.inl rfl)
  by_cases h1 : 8000 < a.size
  · exact stop false hc0 (.inr (.inl h1))
  by_cases h2 : 8000 < p.size
  · exact stop false hc0 (.inr (.inr h2))
  have hcz : c ≠ 0 := fun e => by rw [e] at hc0; exact absurd hc0 (by decide)
  clear stop
  have CA := Lib.hid (fun W (hW : Below w.heap.size w W) => frame13 a W (by omega) (HV.out.next hW))
  have CP := Lib.hid (fun W (hW : Below w.heap.size w W) => frame13 p W (by omega) (HV.out.next hW))
  have la := frameL_le (p := a.data.toList) (by rw [size_list]; unfold num.MX; omega)
  have lp : (frameL p.data.toList).length = (num.putN p.size).length + p.size + 9 := by rw [frameL_length, size_list p]
  have lh := num.putN_len20 (n := p.size) (by unfold num.MX; omega)
  rw [size_list a] at la
  obtain ⟨r, hr⟩ : ∃ r, r = u % (p.size + 9) := ⟨_, rfl⟩
  have hr9 : r < p.size + 9 := by rw [hr]; exact Nat.mod_lt _ (by omega)
  obtain ⟨i, hi⟩ : ∃ i, i = (frameL a.data.toList).length + (num.putN p.size).length + r := ⟨_, rfl⟩
  obtain ⟨N, hN⟩ : ∃ N, N = (frameL a.data.toList ++ frameL p.data.toList).length := ⟨_, rfl⟩
  have hNl : N = (frameL a.data.toList).length + (num.putN p.size).length + p.size + 9 := by rw [hN, List.length_append, lp]; omega
  have hiN : i < N := by omega
  have hil : i < (frameL a.data.toList ++ frameL p.data.toList).length := by rw [← hN]; exact hiN
  obtain ⟨d, hd⟩ : ∃ d, d = (frameL a.data.toList ++ frameL p.data.toList)[i] := ⟨_, rfl⟩
  have HT := Lib.hid (turned_text a p r (d ^^^ c) (by unfold MF; omega) hr9 i hi (fun h => by rw [← hd]; exact xor_ne d c hcz))
  have hcell := fun W => bytes_cell W (frameL a.data.toList ++ frameL p.data.toList) i hil
  rw [← hd] at hcell
  have hfz := fun W => bytes_frozen W (B (frameL a.data.toList ++ frameL p.data.toList)) i (by rw [B_size]; exact hil)
  have hback := fun W cap => bytes_back W (frameL a.data.toList ++ frameL p.data.toList) i (d ^^^ c) N cap hN hil
  have hto : ∀ W, (convert 9 40 (.string (B (frameL a.data.toList) ++ B (frameL p.data.toList)))).run Tryz.prog W
      = .ok (.slice (some ⟨W.heap.size, 0, none⟩) N (grownCap W N 0 5)) (Lib.bytesWorld W 5 (B (frameL a.data.toList ++ frameL p.data.toList))) := fun W => by
    rw [B_append]
    have hs : (B (frameL a.data.toList ++ frameL p.data.toList)).size = N := by rw [B_size]; exact hN.symm
    have h := Lib.run_convert_string_bytes (P := Tryz.prog) W 9 40 5 (B (frameL a.data.toList ++ frameL p.data.toList)) Tryz.underlying9 Tryz.underlying40 Tryz.underlying5
    rw [hs] at h
    exact h
  have hx := xor_byte d c
  have CW : Hid (∀ W, Below w.heap.size w W → Calls Tryz.prog 17 #[.string (B ((frameL a.data.toList ++ frameL p.data.toList).set i (d ^^^ c)))] W fun e w' => Below W.heap.size W w' ∧ ∃ A n k c', n = 1 ∧ k = (frameL a.data.toList).length ∧ e = .returned (.tuple #[.slice A n c', .int .i64 k]) ∧ SRd w' w'.heap.size A [a]) := Lib.hid (fun W hW => by
    have h := whole17 (B ((frameL a.data.toList ++ frameL p.data.toList).set i (d ^^^ c))) W (by rw [B_size, List.length_set, ← hN]; omega) (HV.out.next hW)
    rw [list_B] at h
    refine h.mono fun e w' ⟨hB, ps, A, n, c', k, q1, q2, q3, _, _, q4, q5⟩ => ⟨hB, A, n, k, c', ?_, ?_, q4, ?_⟩
    · obtain rfl := q1.uniq HT.out; exact q2
    · obtain rfl := q1.uniq HT.out; rw [q3, frs_cons, frs_nil, List.append_nil]
    · obtain rfl := q1.uniq HT.out
      have : [a.data.toList].map B = [a] := by simp [B_list]
      rw [← this]; exact q5)
  have hl : ((N : Int) - 9 - (p.size : Int) + (u : Int) % ((p.size : Int) + 9)) = (i : Int) := by
    have e : ((u % (p.size + 9) : Nat) : Int) = (u : Int) % ((p.size : Int) + 9) := by rw [Int.natCast_emod]; rfl
    rw [← e, ← hr]; omega
  have hq0 : (0 : Int) ≤ (u : Int) % ((p.size : Int) + 9) := Int.emod_nonneg _ (by omega)
  have hq1 : (u : Int) % ((p.size : Int) + 9) ≤ (p.size : Int) + 8 := by have := Int.emod_lt_of_pos (u : Int) (show (0 : Int) < (p.size : Int) + 9 by omega); omega
  have hNb : N ≤ 40000 := by omega
  have hpN : p.size + 9 ≤ N := by omega
  have lpb : p.size + 9 ≤ (frameL p.data.toList).length := by omega
  have lpc : (frameL p.data.toList).length ≤ 20000 := by omega
  have lac : (frameL a.data.toList).length ≤ 20000 := by omega
  unfold retR at CA CP
  clear hi hN hNl hd hil HT lp lh la hr hr9
  generalize hX : frameL a.data.toList ++ frameL p.data.toList = X at hcell hfz hback hto CW
  clear hX
  generalize frameL a.data.toList = fa at CA CW hto lac
  generalize frameL p.data.toList = fp at CP hto lpb lpc
  generalize hY : X.set i (d ^^^ c) = Y at hback CW
  clear hY
  generalize hee : d ^^^ c = ee at hback hx
  clear hee
  go_enter Tryz.func11, Tryz.ntmps11
  go_wp2_with fail
  rw [← HWB.out]
  go_quiet (fail)
  go_wp2_with fail
  go_at_call 13
  refine (CA.out _ (below_drewN hB0 _)).mono ?_
  rintro e w1 ⟨rfl, hB1⟩
  have HB1 := (below_drewN hB0 _).trans (hB1.mono (below_drewN hB0 _).size)
  clear hB1 CA
  go_wp2_with fail
  go_at_call 13
  refine (CP.out w1 HB1).mono ?_
  rintro e w2 ⟨rfl, hB2⟩
  have HB2 := HB1.trans (hB2.mono HB1.size)
  clear hB2 CP
  go_wp2_with fail
  go_at_call 17
  have HB3 : Below w.heap.size w ((Lib.bytesWorld w2 5 (B X)).setCell ⟨w2.heap.size, i, none⟩ (.int .u8 (ee.toNat : Int))) :=
    (HB2.trans ((Lib.bytesWorld_below w2 5 (B X)).mono HB2.size)).setCell HB2.size _
  refine (CW.out _ HB3).mono ?_
  rintro e w4 ⟨hB4, A, n, k, cc, rfl, rfl, rfl, hR⟩
  have HB4 := HB3.trans (hB4.mono HB3.size)
  obtain ⟨b, o, rfl, _, hc⟩ := hR (by simp)
  have g0 : w4.cell? ⟨b, o, none⟩ = some (.string a) := hc 0 (by simp)
  clear hc hR hB4 CW hto hback hcell hfz
  go_wp2_with fail
  go_at_call 12
  refine (DD.out w4 HB4).mono ?_
  rintro e w5 ⟨rfl, HB5⟩
  go_wp2
  go_ret
  exact ⟨rfl, HB5⟩
end Go.Proofs.YtljpclfeogiohaaGreatDoor.frm
