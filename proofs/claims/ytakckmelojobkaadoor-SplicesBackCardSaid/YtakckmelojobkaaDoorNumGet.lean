/- The program's Get: the number that stands at a place. -/
import Derived.Test.YtakckmelojobkaaDoorNumPure
import Derived.Test.YtakckmelojobkaaDoorNumNumber
import Derived.Test.YtakckmelojobkaaDoorNumCut
namespace Go.Proofs.YtakckmelojobkaaDoor.num
open Go.RowKit Go.Lib

theorem cut58_len : ∀ (r : List UInt8), (cut58 r).1.length ≤ r.length
  | [] => by simp [cut58]
  | c :: r => by
    by_cases hc : c = 58
    · simp [cut58, hc]
    · simp only [cut58, if_neg hc, List.length_cons]; have := cut58_len r; omega
theorem many_iff (s : ByteArray) : tooMany s.data.toList = decide (1 < s.size ∧ s.data.toList.head? = some 48) := by
  unfold tooMany; rw [size_list]

set_option maxHeartbeats 1000000 in
set_option maxRecDepth 100000 in
theorem tooMany37 (s : ByteArray) (w : World) (hs : s.size ≤ 140737488351232) :
    Calls Tryd.prog 72 #[.string s] w fun e w' => e = .returned (.bool (tooMany s.data.toList)) ∧ w = w' := by
  by_cases h1 : 1 < s.size
  · have h0 : 0 < s.size := by omega
    have hd : s.data.toList.head? = some (s[0]'h0) := by
      rw [List.head?_eq_getElem?, List.getElem?_eq_getElem (by rw [size_list]; exact h0)]; rfl
    by_cases hc : s[0]'h0 = 48
    · have ht : tooMany s.data.toList = true := by rw [many_iff, hd, hc]; simp [h1]
      have HT := Lib.hid ht
      clear ht hd
      have hcc : (((s[0]'h0).toNat : Int) == 48) = true := by rw [hc]; rfl
      have HC := Lib.hid hc
      clear hc
      go_enter Tryd.func72, Tryd.ntmps72
      go_wp2
      go_ret
      exact ⟨ret_bool HT.out.symm, rfl⟩
    · have ht : tooMany s.data.toList = false := by rw [many_iff, hd]; simp [hc]
      have HT := Lib.hid ht
      clear ht hd
      have hcc : (((s[0]'h0).toNat : Int) == 48) = false := by
        rw [beq_eq_false_iff_ne]
        intro e
        apply hc
        apply UInt8.toNat_inj.1
        show (s[0]'h0).toNat = 48
        omega
      have HC := Lib.hid hc
      clear hc
      go_enter Tryd.func72, Tryd.ntmps72
      go_wp2
      go_ret
      exact ⟨ret_bool HT.out.symm, rfl⟩
  · have HT : Hid (tooMany s.data.toList = false) := Lib.hid (by rw [many_iff]; simp [h1])
    go_enter Tryd.func72, Tryd.ntmps72
    go_wp2
    go_ret
    exact ⟨ret_bool HT.out.symm, rfl⟩

/-- What is told of digits. -/
def retD : Option Nat → Value
  | none => .tuple #[.int .i64 0, .bool false]
  | some n => .tuple #[.int .i64 n, .bool true]

set_option maxHeartbeats 4000000 in
set_option maxRecDepth 100000 in
theorem number31 (s : ByteArray) (w : World) (hs : s.size ≤ 140737488351232) (hV : Vars w.heap.size w) :
    Calls Tryd.prog 64 #[.string s] w fun e w' => e = .returned (retD (numD s.data.toList)) ∧ Below w.heap.size w w' := by
  obtain ⟨h6, ht, aS, aR, cS, cR, tS, tR, hS, hR, hne, b0, b1, c0, c1⟩ := hV
  have C := Lib.hid (uint35 s (by omega) aS aR w ⟨h6.1, h6.2.1⟩ hS hR)
  unfold UintSays at C
  unfold numD
  rcases h : Lib.parseUintB 63 s.data.toList with u | _ | _
  · rw [h] at C
    have hu : u ≤ 9223372036854775807 := by
      have := Lib.parseUintB_le h
      have e : (2 : Nat) ^ 63 - 1 = 9223372036854775807 := by decide
      omega
    clear h
    have HM := Lib.hid (fun W => tooMany37 s W hs)
    rcases hb : tooMany s.data.toList
    all_goals
      rw [hb] at HM
      clear hb
      go_enter Tryd.func64, Tryd.ntmps64
      go_wp2_with fail
      go_at_call 70
      refine C.out.mono ?_
      rintro e w1 ⟨hB1, rfl⟩
      have d0 : w1.cell? ⟨0, 0, none⟩ = some (.iface 152 (.pointer (some aS))) := (hB1.cell (p := ⟨0, 0, none⟩) (show 0 < w.heap.size by omega)).trans hS
      have d1 : w1.cell? ⟨1, 0, none⟩ = some (.iface 152 (.pointer (some aR))) := (hB1.cell (p := ⟨1, 0, none⟩) (show 1 < w.heap.size by omega)).trans hR
      clear C ht hS hR c0 c1
      go_wp2_with fail
      go_at_call 71
      refine (is_nil aS w1).mono ?_
      rintro e w2 ⟨rfl, rfl⟩
      go_wp2_with fail
      go_at_call 71
      refine (is_nil aR w1).mono ?_
      rintro e w2 ⟨rfl, rfl⟩
      go_wp2_with fail
      go_at_call 72
      refine (HM.out w1).mono ?_
      rintro e w2 ⟨rfl, rfl⟩
      go_wp2
      go_ret2
      exact ⟨rfl, hB1⟩
  · rw [h] at C
    clear h
    go_enter Tryd.func64, Tryd.ntmps64
    go_wp2_with fail
    go_at_call 70
    refine C.out.mono ?_
    rintro e w1 ⟨hB1, N, rfl, hN⟩
    have d0 : w1.cell? ⟨0, 0, none⟩ = some (.iface 152 (.pointer (some aS))) := (hB1.cell (p := ⟨0, 0, none⟩) (show 0 < w.heap.size by omega)).trans hS
    have HN := Lib.hid hN
    clear C ht hS hR c0 c1 hN
    go_wp2_with fail
    go_at_call 71
    refine (is_num_same N aS w1 HN.out).mono ?_
    rintro e w2 ⟨rfl, rfl⟩
    go_wp2
    go_ret2
    exact ⟨rfl, hB1⟩
  · rw [h] at C
    clear h
    go_enter Tryd.func64, Tryd.ntmps64
    go_wp2_with fail
    go_at_call 70
    refine C.out.mono ?_
    rintro e w1 ⟨hB1, N, rfl, hN⟩
    have d0 : w1.cell? ⟨0, 0, none⟩ = some (.iface 152 (.pointer (some aS))) := (hB1.cell (p := ⟨0, 0, none⟩) (show 0 < w.heap.size by omega)).trans hS
    have d1 : w1.cell? ⟨1, 0, none⟩ = some (.iface 152 (.pointer (some aR))) := (hB1.cell (p := ⟨1, 0, none⟩) (show 1 < w.heap.size by omega)).trans hR
    have k0 := Lib.hid ((hB1.block _ b0).trans c0)
    have k1 := Lib.hid ((hB1.block _ b1).trans c1)
    have HN := Lib.hid hN
    have HE := Lib.hid hne
    clear C ht hS hR c0 c1 hN hne
    go_wp2_with fail
    go_at_call 71
    refine (is_num_other N aS aR cR cS tR tS w1 HN.out (fun e => HE.out e.symm) k1.out k0.out).mono ?_
    rintro e w2 ⟨rfl, rfl⟩
    go_wp2_with fail
    go_at_call 71
    refine (is_num_same N aR w1 HN.out).mono ?_
    rintro e w2 ⟨rfl, rfl⟩
    go_wp2
    go_ret2
    exact ⟨rfl, hB1⟩

set_option maxHeartbeats 1000000 in
set_option maxRecDepth 100000 in
theorem digitsNo30 (s : ByteArray) (a : Int) (w : World) (_hs : s.size ≤ 140737488351232) (h : a < 0 ∨ (0 ≤ a ∧ s.size < a)) :
    Calls Tryd.prog 63 #[.string s, .int .i64 a] w fun e w' => e = .returned (.tuple #[.string ⟨#[]⟩, .bool false]) ∧ w = w' := by
  rcases h with h | ⟨h0, h⟩
  all_goals
    go_enter Tryd.func63, Tryd.ntmps63
    go_wp2
    go_ret2
    exact ⟨rfl, rfl⟩

theorem near_slice (s : ByteArray) (a : Nat) (h : a ≤ s.size) (W : World) : (Instr.slice 9 (.string s) (some (.int .i64 a)) (some (.int .i64 (min (s.size : Int) ((a : Int) + 19 + 1)))) none).run Tryd.prog W = .ok (.string (B ((s.data.toList.drop a).take 20))) W := by
  have e1 : min (s.size : Int) ((a : Int) + 19 + 1) = ((min s.size (a + 20) : Nat) : Int) := by omega
  have := run_slice_string (P := Tryd.prog) W 9 s .i64 .i64 (a : Int) ((min s.size (a + 20) : Nat) : Int) Tryd.underlying9 (by omega) (by omega) (by omega)
  rw [e1, this, Int.toNat_natCast, Int.toNat_natCast, extract_B]
  have e2 : (s.data.toList.drop a).take (min s.size (a + 20) - a) = (s.data.toList.drop a).take 20 := by
    exact List.take_eq_take_iff.2 (by rw [List.length_drop, size_list]; omega)
  rw [e2]

set_option maxHeartbeats 1000000 in
set_option maxRecDepth 100000 in
theorem digits30 (s : ByteArray) (a : Nat) (w : World) (hs : s.size ≤ 140737488351232) (h : a ≤ s.size) :
    Calls Tryd.prog 63 #[.string s, .int .i64 a] w fun e w' => e = .returned (.tuple #[.string (B (cut58 ((s.data.toList.drop a).take 20)).1), .bool (cut58 ((s.data.toList.drop a).take 20)).2.2]) ∧ ∃ q, w' = w.drewN q := by
  have hsl := near_slice s a h
  have C := Lib.hid (fun W => cut34 (B ((s.data.toList.drop a).take 20)) W (by rw [B_size]; have := List.length_take_le 20 (s.data.toList.drop a); omega))
  generalize (s.data.toList.drop a).take 20 = near at hsl C ⊢
  rw [list_B] at C
  go_enter Tryd.func63, Tryd.ntmps63
  go_wp2_with fail
  go_at_call 69
  refine (C.out _).mono ?_
  rintro e w' ⟨rfl, q, rfl⟩
  go_wp2
  go_ret2
  exact ⟨rfl, q, rfl⟩

/-- What Get tells: nothing; or the number and the place behind it. -/
theorem atN_none {l : List UInt8} {a : Int} (h : a < 0 ∨ (0 ≤ a ∧ l.length < a)) : atN l a = none := by unfold atN; rw [if_neg (by omega)]
theorem atN_at {l : List UInt8} {a : Nat} (h : a ≤ l.length) : atN l (a : Int) = getN (l.drop a) := by unfold atN; rw [if_pos (by omega), Int.toNat_natCast]

set_option maxHeartbeats 1000000 in
set_option maxRecDepth 100000 in
theorem get20 (s : ByteArray) (a : Int) (w : World) (hs : s.size ≤ 140737488351232) (hV : Vars w.heap.size w) :
    Calls Tryd.prog 57 #[.string s, .int .i64 a] w fun e w' => e = .returned (retN a (atN s.data.toList a)) ∧ Below w.heap.size w w' := by
  by_cases ha : 0 ≤ a ∧ a ≤ s.size
  · obtain ⟨ha0, ha1⟩ := ha
    obtain ⟨b, rfl⟩ : ∃ b : Nat, a = b := ⟨a.toNat, by omega⟩
    have hb : b ≤ s.size := by omega
    rw [atN_at (by rw [size_list]; exact hb)]
    have HG := Lib.hid (getN_near (s.data.toList.drop b))
    have C := Lib.hid (fun W => digits30 s b W hs hb)
    have hl : (cut58 ((s.data.toList.drop b).take 20)).1.length ≤ 20 := Nat.le_trans (cut58_len _) (List.length_take_le _ _)
    rcases hc : (cut58 ((s.data.toList.drop b).take 20)).2.2
    · rw [hc] at HG C
      have HG2 : Hid (getN (s.data.toList.drop b) = none) := Lib.hid (by rw [HG.out, if_neg (by simp)])
      clear HG hc hl
      go_enter Tryd.func57, Tryd.ntmps57
      go_wp2_with fail
      go_at_call 63
      refine (C.out _).mono ?_
      rintro e w' ⟨rfl, q, rfl⟩
      go_wp2
      go_ret3
      exact ⟨by rw [HG2.out]; rfl, below_drewN (Below.refl _ _) _⟩
    · rw [hc] at HG C
      generalize (cut58 ((s.data.toList.drop b).take 20)).1 = ds at HG C hl
      clear hc
      have hds : (B ds).size ≤ 20 := by rw [B_size]; exact hl
      have HG2 : Hid (getN (s.data.toList.drop b) = numD ds) := Lib.hid (by rw [HG.out, if_pos rfl])
      have D := Lib.hid (fun (W : World) (hW : Vars W.heap.size W) => number31 (B ds) W (by omega) hW)
      rw [list_B] at D
      rcases hn : numD ds with _ | n
      · rw [hn] at HG2 D
        clear HG hn hl hds
        go_enter Tryd.func57, Tryd.ntmps57
        go_wp2_with fail
        go_at_call 63
        refine (C.out _).mono ?_
        rintro e w' ⟨rfl, q, rfl⟩
        have hV1 := (hV.below (below_drewN (Below.refl _ w) q))
        go_wp2_with fail
        go_at_call 64
        refine (D.out (w.drewN q) hV1).mono ?_
        rintro e w' ⟨rfl, hB1⟩
        have HB := (below_drewN (Below.refl _ w) q).trans hB1
        unfold retD
        go_wp2
        go_ret3
        exact ⟨by rw [HG2.out]; rfl, HB⟩
      · rw [hn] at HG2 D
        obtain ⟨hn1, hn2⟩ := numD_iff.1 hn
        have HD := Lib.hid hn2
        have hn1' : n ≤ 9223372036854775807 := hn1
        clear HG hn hds hn1 hn2
        go_enter Tryd.func57, Tryd.ntmps57
        go_wp2_with fail
        go_at_call 63
        refine (C.out _).mono ?_
        rintro e w' ⟨rfl, q, rfl⟩
        have hV1 := (hV.below (below_drewN (Below.refl _ w) q))
        go_wp2_with fail
        go_at_call 64
        refine (D.out (w.drewN q) hV1).mono ?_
        rintro e w' ⟨rfl, hB1⟩
        have HB := (below_drewN (Below.refl _ w) q).trans hB1
        unfold retD
        go_wp2
        go_ret3
        refine ⟨?_, HB⟩
        rw [HG2.out]
        have e : ((b : Int) + (ds.length : Int) + 1) = (b : Int) + ((putN n).length : Nat) := by rw [putN_len, ← HD.out]; omega
        show Ending.returned (.tuple #[.int .i64 (n : Int), .int .i64 ((b : Int) + (ds.length : Int) + 1), .bool true]) = _
        rw [e]
        rfl
  · have h' : a < 0 ∨ (0 ≤ a ∧ s.size < a) := by omega
    rw [atN_none (by rw [size_list]; exact h')]
    have C := Lib.hid (fun W => digitsNo30 s a W hs h')
    clear ha h'
    go_enter Tryd.func57, Tryd.ntmps57
    go_wp2_with fail
    go_at_call 63
    refine (C.out _).mono ?_
    rintro e w' ⟨rfl, rfl⟩
    go_wp2
    go_ret3
    exact ⟨rfl, Below.refl _ _⟩
end Go.Proofs.YtakckmelojobkaaDoor.num
