/- Put, PutText and GetText, the program's and the document's. -/
import Derived.Test.YtmknbakfjhjfmaaGreatDoorNumPure
import Derived.Test.YtmknbakfjhjfmaaGreatDoorWords
import Derived.Test.YtmknbakfjhjfmaaGreatDoorShelf
import Derived.Lib.Strings
import Derived.Lib.Slices
import Derived.Lib.Walk
import Derived.Lib.Bytealg
import Derived.Lib.IndexLaws
import Derived.Lib.IndexBytes
import Derived.Test.YtmknbakfjhjfmaaGreatDoorNumNumber
/-! strings.Index and strings.Cut at a colon. -/
namespace Go.Proofs.YtmknbakfjhjfmaaGreatDoor.num
open Go.RowKit Go.Lib

theorem index49 (s : ByteArray) (c : UInt8) (w : World) :
    Calls Tryz.prog 126 #[.string s, .string ⟨#[c]⟩] w fun e w' => e = .returned (.int .i64 (Lib.indexByte s.data.toList c)) ∧ w' = w := Tryz.stringslite_Index_one s c w

theorem extract_B (s : ByteArray) (a b : Nat) : s.extract a b = B ((s.data.toList.drop a).take (b - a)) := by rw [← Lib.extract_data, B_list]
theorem extract_end (s : ByteArray) (a : Nat) : s.extract a s.size = B (s.data.toList.drop a) := by rw [← Lib.extract_to_end, B_list]
theorem index_cases (l : List UInt8) (c : UInt8) : Lib.indexByte l c = -1 ∨ ∃ o : Nat, o < l.length ∧ Lib.indexByte l c = o := by
  have h := Lib.indexByte_ge l c
  by_cases h1 : Lib.indexByte l c = -1
  · exact .inl h1
  · right
    obtain ⟨o, ho⟩ : ∃ o : Nat, Lib.indexByte l c = o := ⟨(Lib.indexByte l c).toNat, by omega⟩
    refine ⟨o, ?_, ho⟩
    have := (Lib.indexByte_some ho).1
    exact (List.getElem?_eq_some_iff.1 this).1

set_option maxHeartbeats 1000000 in
set_option maxRecDepth 100000 in
theorem cut40 (s : ByteArray) (w : World) (hs : s.size ≤ 9223372036854775806) :
    Calls Tryz.prog 168 #[.string s, .string ⟨#[58]⟩] w fun e w' => e = .returned (.tuple #[.string (B (cut58 s.data.toList).1), .string (B (cut58 s.data.toList).2.1), .bool (cut58 s.data.toList).2.2]) ∧ ∃ q, w' = w.drewN q := by
  have e0 : s.data.toList.length = s.size := by rw [Array.length_toList]; rfl
  rcases index_cases s.data.toList 58 with h | ⟨o, ho, h⟩
  · have hn : (58 : UInt8) ∉ s.data.toList := fun hm => by
      obtain ⟨k, hk⟩ := List.getElem?_of_mem hm
      exact Lib.indexByte_none h k hk
    have HC := Lib.hid (cut58_none _ hn)
    clear hn e0
    go_enter Tryz.func168, Tryz.ntmps168
    go_wp2_with (go_at_call 126; refine (index49 _ _ _).mono ?_; rintro e w' ⟨rfl, rfl⟩; rw [h])
    go_ret3
    rw [HC.out]
    exact ⟨by rw [B_list]; rfl, 0, rfl⟩
  · have hh := Lib.indexByte_some h
    have HC := Lib.hid (cut58_some _ _ hh.1 hh.2)
    have ho' : o < s.size := by omega
    have E := Lib.hid e0
    clear hh e0 ho
    go_enter Tryz.func168, Tryz.ntmps168
    go_wp2_with (go_at_call 126; refine (index49 _ _ _).mono ?_; rintro e w' ⟨rfl, rfl⟩; rw [h])
    go_region
    go_wp2
    go_ret3
    rw [HC.out]
    refine ⟨?_, 1, rfl⟩
    show Ending.returned (.tuple #[.string (s.extract 0 o), .string (s.extract (o + 1) s.size), .bool true]) = _
    rw [extract_B s 0 o, extract_end s (o + 1)]
    simp

set_option maxHeartbeats 1000000 in
theorem cut34 (s : ByteArray) (w : World) (hs : s.size ≤ 9223372036854775806) :
    Calls Tryz.prog 162 #[.string s, .string ⟨#[58]⟩] w fun e w' => e = .returned (.tuple #[.string (B (cut58 s.data.toList).1), .string (B (cut58 s.data.toList).2.1), .bool (cut58 s.data.toList).2.2]) ∧ ∃ q, w' = w.drewN q := by
  go_enter Tryz.func162, Tryz.ntmps162
  go_wp2_with (go_at_call 168; refine (cut40 _ _ hs).mono ?_; rintro e w' ⟨rfl, q, rfl⟩)
  go_ret3
  exact ⟨rfl, q, rfl⟩
end Go.Proofs.YtmknbakfjhjfmaaGreatDoor.num

/-! The document's Get, walked. -/
namespace Go.Proofs.YtmknbakfjhjfmaaGreatDoor.num
open Go.RowKit Go.Lib

theorem put_slice (s : ByteArray) (a m : Nat) (h : a + m ≤ s.size) (W : World) : (Instr.slice 9 (.string s) (some (.int .i64 a)) (some (.int .i64 ((a : Int) + (m : Int)))) none).run Tryz.prog W = .ok (.string (B ((s.data.toList.drop a).take m))) W := by
  have := run_slice_string (P := Tryz.prog) W 9 s .i64 .i64 (a : Int) ((a : Int) + (m : Int)) Tryz.underlying9 (by omega) (by omega) (by omega)
  rw [this, Int.toNat_natCast, show ((a : Int) + (m : Int)).toNat = a + m by omega, extract_B, show a + m - a = m by omega]

/-- The number that was gone through is the one that stands there, if its bytes do. -/
def Judged (l : List UInt8) (acc : Nat) : Prop := acc ≤ MX ∧ ∀ n, getN l = some n → n = acc
theorem Judged.yes {l : List UInt8} {acc : Nat} (h : Judged l acc) (hp : l.take (putN acc).length = putN acc) : getN l = some acc :=
  getN_iff.2 ⟨h.1, by rw [← hp]; exact List.take_prefix _ _⟩
theorem Judged.no {l : List UInt8} {acc : Nat} (h : Judged l acc) (hp : ¬ l.take (putN acc).length = putN acc) : getN l = none := by
  rcases hg : getN l with _ | n
  · rfl
  · exfalso
    have := h.2 n hg
    subst this
    obtain ⟨r, hr⟩ := (getN_iff.1 hg).2
    apply hp
    rw [← hr, List.take_left]

end Go.Proofs.YtmknbakfjhjfmaaGreatDoor.num

/-! The program's Get: the number that stands at a place. -/
namespace Go.Proofs.YtmknbakfjhjfmaaGreatDoor.num
open Go.RowKit Go.Lib

theorem cut58_len : ∀ (r : List UInt8), (cut58 r).1.length ≤ r.length
  | [] => by simp [cut58]
  | c :: r => by
    by_cases hc : c = 58
    · simp [cut58, hc]
    · simp only [cut58, if_neg hc, List.length_cons]; have := cut58_len r; omega
theorem many_iff (s : ByteArray) : tooMany s.data.toList = decide (1 < s.size ∧ s.data.toList.head? = some 48) := by
  unfold tooMany; rw [size_list]

set_option maxHeartbeats 1000000 in
set_option maxRecDepth 100000 in
theorem tooMany37 (s : ByteArray) (w : World) (hs : s.size ≤ 140737488351232) :
    Calls Tryz.prog 164 #[.string s] w fun e w' => e = .returned (.bool (tooMany s.data.toList)) ∧ w = w' := by
  by_cases h1 : 1 < s.size
  · have h0 : 0 < s.size := by omega
    have hd : s.data.toList.head? = some (s[0]'h0) := by
      rw [List.head?_eq_getElem?, List.getElem?_eq_getElem (by rw [size_list]; exact h0)]; rfl
    by_cases hc : s[0]'h0 = 48
    · have ht : tooMany s.data.toList = true := by rw [many_iff, hd, hc]; simp [h1]
      have HT := Lib.hid ht
      clear ht hd
      have hcc : (((s[0]'h0).toNat : Int) == 48) = true := by rw [hc]; rfl
      have HC := Lib.hid hc
      clear hc
      go_enter Tryz.func164, Tryz.ntmps164
      go_wp2
      go_ret
      exact ⟨ret_bool HT.out.symm, rfl⟩
    · have ht : tooMany s.data.toList = false := by rw [many_iff, hd]; simp [hc]
      have HT := Lib.hid ht
      clear ht hd
      have hcc : (((s[0]'h0).toNat : Int) == 48) = false := by
        rw [beq_eq_false_iff_ne]
        intro e
        apply hc
        apply UInt8.toNat_inj.1
        show (s[0]'h0).toNat = 48
        omega
      have HC := Lib.hid hc
      clear hc
      go_enter Tryz.func164, Tryz.ntmps164
      go_wp2
      go_ret
      exact ⟨ret_bool HT.out.symm, rfl⟩
  · have HT : Hid (tooMany s.data.toList = false) := Lib.hid (by rw [many_iff]; simp [h1])
    go_enter Tryz.func164, Tryz.ntmps164
    go_wp2
    go_ret
    exact ⟨ret_bool HT.out.symm, rfl⟩

/-- What is told of digits. -/
def retD : Option Nat → Value
  | none => .tuple #[.int .i64 0, .bool false]
  | some n => .tuple #[.int .i64 n, .bool true]

set_option maxHeartbeats 4000000 in
set_option maxRecDepth 100000 in
theorem number31 (s : ByteArray) (w : World) (hs : s.size ≤ 140737488351232) (hV : Vars w.heap.size w) :
    Calls Tryz.prog 148 #[.string s] w fun e w' => e = .returned (retD (numD s.data.toList)) ∧ Below w.heap.size w w' := by
  obtain ⟨h6, ht, aS, aR, cS, cR, tS, tR, hS, hR, hne, b0, b1, c0, c1⟩ := hV
  have C := Lib.hid (uint35 s (by omega) aS aR w ⟨h6.1, h6.2.1⟩ hS hR)
  unfold UintSays at C
  unfold numD
  rcases h : Lib.parseUintB 63 s.data.toList with u | _ | _
  · rw [h] at C
    have hu : u ≤ 9223372036854775807 := by
      have := Lib.parseUintB_le h
      have e : (2 : Nat) ^ 63 - 1 = 9223372036854775807 := by decide
      omega
    clear h
    have HM := Lib.hid (fun W => tooMany37 s W hs)
    rcases hb : tooMany s.data.toList
    all_goals
      rw [hb] at HM
      clear hb
      go_enter Tryz.func148, Tryz.ntmps148
      go_wp2_with fail
      go_at_call 163
      refine C.out.mono ?_
      rintro e w1 ⟨hB1, rfl⟩
      have d0 : w1.cell? ⟨3, 0, none⟩ = some (.iface 239 (.pointer (some aS))) := (hB1.cell (p := ⟨3, 0, none⟩) (show 3 < w.heap.size by omega)).trans hS
      have d1 : w1.cell? ⟨4, 0, none⟩ = some (.iface 239 (.pointer (some aR))) := (hB1.cell (p := ⟨4, 0, none⟩) (show 4 < w.heap.size by omega)).trans hR
      clear C ht hS hR c0 c1
      go_wp2_with fail
      go_at_call 42
      refine (is_nil aS w1).mono ?_
      rintro e w2 ⟨rfl, rfl⟩
      go_wp2_with fail
      go_at_call 42
      refine (is_nil aR w1).mono ?_
      rintro e w2 ⟨rfl, rfl⟩
      go_wp2_with fail
      go_at_call 164
      refine (HM.out w1).mono ?_
      rintro e w2 ⟨rfl, rfl⟩
      go_wp2
      go_ret2
      exact ⟨rfl, hB1⟩
  · rw [h] at C
    clear h
    go_enter Tryz.func148, Tryz.ntmps148
    go_wp2_with fail
    go_at_call 163
    refine C.out.mono ?_
    rintro e w1 ⟨hB1, N, rfl, hN⟩
    have d0 : w1.cell? ⟨3, 0, none⟩ = some (.iface 239 (.pointer (some aS))) := (hB1.cell (p := ⟨3, 0, none⟩) (show 3 < w.heap.size by omega)).trans hS
    have HN := Lib.hid hN
    clear C ht hS hR c0 c1 hN
    go_wp2_with fail
    go_at_call 42
    refine (is_num_same N aS w1 HN.out).mono ?_
    rintro e w2 ⟨rfl, rfl⟩
    go_wp2
    go_ret2
    exact ⟨rfl, hB1⟩
  · rw [h] at C
    clear h
    go_enter Tryz.func148, Tryz.ntmps148
    go_wp2_with fail
    go_at_call 163
    refine C.out.mono ?_
    rintro e w1 ⟨hB1, N, rfl, hN⟩
    have d0 : w1.cell? ⟨3, 0, none⟩ = some (.iface 239 (.pointer (some aS))) := (hB1.cell (p := ⟨3, 0, none⟩) (show 3 < w.heap.size by omega)).trans hS
    have d1 : w1.cell? ⟨4, 0, none⟩ = some (.iface 239 (.pointer (some aR))) := (hB1.cell (p := ⟨4, 0, none⟩) (show 4 < w.heap.size by omega)).trans hR
    have k0 := Lib.hid ((hB1.block _ b0).trans c0)
    have k1 := Lib.hid ((hB1.block _ b1).trans c1)
    have HN := Lib.hid hN
    have HE := Lib.hid hne
    clear C ht hS hR c0 c1 hN hne
    go_wp2_with fail
    go_at_call 42
    refine (is_num_other N aS aR cR cS tR tS w1 HN.out (fun e => HE.out e.symm) k1.out k0.out).mono ?_
    rintro e w2 ⟨rfl, rfl⟩
    go_wp2_with fail
    go_at_call 42
    refine (is_num_same N aR w1 HN.out).mono ?_
    rintro e w2 ⟨rfl, rfl⟩
    go_wp2
    go_ret2
    exact ⟨rfl, hB1⟩

set_option maxHeartbeats 1000000 in
set_option maxRecDepth 100000 in
theorem digitsNo30 (s : ByteArray) (a : Int) (w : World) (_hs : s.size ≤ 140737488351232) (h : a < 0 ∨ (0 ≤ a ∧ s.size < a)) :
    Calls Tryz.prog 147 #[.string s, .int .i64 a] w fun e w' => e = .returned (.tuple #[.string ⟨#[]⟩, .bool false]) ∧ w = w' := by
  rcases h with h | ⟨h0, h⟩
  all_goals
    go_enter Tryz.func147, Tryz.ntmps147
    go_wp2
    go_ret2
    exact ⟨rfl, rfl⟩

theorem near_slice (s : ByteArray) (a : Nat) (h : a ≤ s.size) (W : World) : (Instr.slice 9 (.string s) (some (.int .i64 a)) (some (.int .i64 (min (s.size : Int) ((a : Int) + 19 + 1)))) none).run Tryz.prog W = .ok (.string (B ((s.data.toList.drop a).take 20))) W := by
  have e1 : min (s.size : Int) ((a : Int) + 19 + 1) = ((min s.size (a + 20) : Nat) : Int) := by omega
  have := run_slice_string (P := Tryz.prog) W 9 s .i64 .i64 (a : Int) ((min s.size (a + 20) : Nat) : Int) Tryz.underlying9 (by omega) (by omega) (by omega)
  rw [e1, this, Int.toNat_natCast, Int.toNat_natCast, extract_B]
  have e2 : (s.data.toList.drop a).take (min s.size (a + 20) - a) = (s.data.toList.drop a).take 20 := by
    exact List.take_eq_take_iff.2 (by rw [List.length_drop, size_list]; omega)
  rw [e2]

set_option maxHeartbeats 1000000 in
set_option maxRecDepth 100000 in
theorem digits30 (s : ByteArray) (a : Nat) (w : World) (hs : s.size ≤ 140737488351232) (h : a ≤ s.size) :
    Calls Tryz.prog 147 #[.string s, .int .i64 a] w fun e w' => e = .returned (.tuple #[.string (B (cut58 ((s.data.toList.drop a).take 20)).1), .bool (cut58 ((s.data.toList.drop a).take 20)).2.2]) ∧ ∃ q, w' = w.drewN q := by
  have hsl := near_slice s a h
  have C := Lib.hid (fun W => cut34 (B ((s.data.toList.drop a).take 20)) W (by rw [B_size]; have := List.length_take_le 20 (s.data.toList.drop a); omega))
  generalize (s.data.toList.drop a).take 20 = near at hsl C ⊢
  rw [list_B] at C
  go_enter Tryz.func147, Tryz.ntmps147
  go_wp2_with fail
  go_at_call 162
  refine (C.out _).mono ?_
  rintro e w' ⟨rfl, q, rfl⟩
  go_wp2
  go_ret2
  exact ⟨rfl, q, rfl⟩

/-- What Get tells: nothing; or the number and the place behind it. -/
theorem atN_none {l : List UInt8} {a : Int} (h : a < 0 ∨ (0 ≤ a ∧ l.length < a)) : atN l a = none := by unfold atN; rw [if_neg (by omega)]
theorem atN_at {l : List UInt8} {a : Nat} (h : a ≤ l.length) : atN l (a : Int) = getN (l.drop a) := by unfold atN; rw [if_pos (by omega), Int.toNat_natCast]

set_option maxHeartbeats 1000000 in
set_option maxRecDepth 100000 in
theorem get20 (s : ByteArray) (a : Int) (w : World) (hs : s.size ≤ 140737488351232) (hV : Vars w.heap.size w) :
    Calls Tryz.prog 125 #[.string s, .int .i64 a] w fun e w' => e = .returned (retN a (atN s.data.toList a)) ∧ Below w.heap.size w w' := by
  by_cases ha : 0 ≤ a ∧ a ≤ s.size
  · obtain ⟨ha0, ha1⟩ := ha
    obtain ⟨b, rfl⟩ : ∃ b : Nat, a = b := ⟨a.toNat, by omega⟩
    have hb : b ≤ s.size := by omega
    rw [atN_at (by rw [size_list]; exact hb)]
    have HG := Lib.hid (getN_near (s.data.toList.drop b))
    have C := Lib.hid (fun W => digits30 s b W hs hb)
    have hl : (cut58 ((s.data.toList.drop b).take 20)).1.length ≤ 20 := Nat.le_trans (cut58_len _) (List.length_take_le _ _)
    rcases hc : (cut58 ((s.data.toList.drop b).take 20)).2.2
    · rw [hc] at HG C
      have HG2 : Hid (getN (s.data.toList.drop b) = none) := Lib.hid (by rw [HG.out, if_neg (by simp)])
      clear HG hc hl
      go_enter Tryz.func125, Tryz.ntmps125
      go_wp2_with fail
      go_at_call 147
      refine (C.out _).mono ?_
      rintro e w' ⟨rfl, q, rfl⟩
      go_wp2
      go_ret3
      exact ⟨by rw [HG2.out]; rfl, below_drewN (Below.refl _ _) _⟩
    · rw [hc] at HG C
      generalize (cut58 ((s.data.toList.drop b).take 20)).1 = ds at HG C hl
      clear hc
      have hds : (B ds).size ≤ 20 := by rw [B_size]; exact hl
      have HG2 : Hid (getN (s.data.toList.drop b) = numD ds) := Lib.hid (by rw [HG.out, if_pos rfl])
      have D := Lib.hid (fun (W : World) (hW : Vars W.heap.size W) => number31 (B ds) W (by omega) hW)
      rw [list_B] at D
      rcases hn : numD ds with _ | n
      · rw [hn] at HG2 D
        clear HG hn hl hds
        go_enter Tryz.func125, Tryz.ntmps125
        go_wp2_with fail
        go_at_call 147
        refine (C.out _).mono ?_
        rintro e w' ⟨rfl, q, rfl⟩
        have hV1 := (hV.below (below_drewN (Below.refl _ w) q))
        go_wp2_with fail
        go_at_call 148
        refine (D.out (w.drewN q) hV1).mono ?_
        rintro e w' ⟨rfl, hB1⟩
        have HB := (below_drewN (Below.refl _ w) q).trans hB1
        unfold retD
        go_wp2
        go_ret3
        exact ⟨by rw [HG2.out]; rfl, HB⟩
      · rw [hn] at HG2 D
        obtain ⟨hn1, hn2⟩ := numD_iff.1 hn
        have HD := Lib.hid hn2
        have hn1' : n ≤ 9223372036854775807 := hn1
        clear HG hn hds hn1 hn2
        go_enter Tryz.func125, Tryz.ntmps125
        go_wp2_with fail
        go_at_call 147
        refine (C.out _).mono ?_
        rintro e w' ⟨rfl, q, rfl⟩
        have hV1 := (hV.below (below_drewN (Below.refl _ w) q))
        go_wp2_with fail
        go_at_call 148
        refine (D.out (w.drewN q) hV1).mono ?_
        rintro e w' ⟨rfl, hB1⟩
        have HB := (below_drewN (Below.refl _ w) q).trans hB1
        unfold retD
        go_wp2
        go_ret3
        refine ⟨?_, HB⟩
        rw [HG2.out]
        have e : ((b : Int) + (ds.length : Int) + 1) = (b : Int) + ((putN n).length : Nat) := by rw [putN_len, ← HD.out]; omega
        show Ending.returned (.tuple #[.int .i64 (n : Int), .int .i64 ((b : Int) + (ds.length : Int) + 1), .bool true]) = _
        rw [e]
        rfl
  · have h' : a < 0 ∨ (0 ≤ a ∧ s.size < a) := by omega
    rw [atN_none (by rw [size_list]; exact h')]
    have C := Lib.hid (fun W => digitsNo30 s a W hs h')
    clear ha h'
    go_enter Tryz.func125, Tryz.ntmps125
    go_wp2_with fail
    go_at_call 147
    refine (C.out _).mono ?_
    rintro e w' ⟨rfl, rfl⟩
    go_wp2
    go_ret3
    exact ⟨rfl, Below.refl _ _⟩
end Go.Proofs.YtmknbakfjhjfmaaGreatDoor.num

/-! Put, PutText and GetText, the program's and the document's. -/
namespace Go.Proofs.YtmknbakfjhjfmaaGreatDoor.num
open Go.RowKit Go.Lib

/-! ## Put -/
theorem itoa_put (n : Nat) : (⟨(Lib.itoa (n : Int)).toArray⟩ : ByteArray) ++ (⟨#[58]⟩ : ByteArray) = B (putN n) := by
  rw [Lib.itoa_nonneg, B_mk #[58]]
  exact B_append _ _

set_option maxHeartbeats 1000000 in
set_option maxRecDepth 100000 in
theorem put12 (n : Nat) (w : World) (hn : n ≤ MX) (hV : Vars w.heap.size w) :
    Calls Tryz.prog 62 #[.int .i64 n] w fun e w' => e = .returned (.string (B (putN n))) ∧ Below w.heap.size w w' := by
  have hn' : n ≤ 9223372036854775807 := hn
  have hl : (Lib.itoa (n : Int)).length ≤ 19 := by rw [Lib.itoa_nonneg]; exact dec_len19 hn
  have C := Lib.hid (Tryz.strconv_Itoa n (by omega) (by omega) w hV.2.1)
  have HI := Lib.hid (itoa_put n)
  clear hn hV
  generalize Lib.itoa (n : Int) = x at hl C HI
  go_enter Tryz.func62, Tryz.ntmps62
  go_wp2_with fail
  go_at_call 87
  refine C.out.mono ?_
  rintro e w' ⟨rfl, k, os, rfl⟩
  have hB := Lib.below_grow w.heap.size w (Nat.le_refl _) k os
  go_wp2
  go_ret
  exact ⟨ret_str HI.out, hB⟩

set_option maxHeartbeats 1000000 in
set_option maxRecDepth 100000 in
theorem putNo12 (n : Int) (w : World) (hn : n < 0) :
    Calls Tryz.prog 62 #[.int .i64 n] w fun e w' => e = .returned (.string ⟨#[]⟩) ∧ w = w' := by
  go_enter Tryz.func62, Tryz.ntmps62
  go_wp2
  go_ret
  exact ⟨rfl, rfl⟩

set_option maxHeartbeats 1000000 in
set_option maxRecDepth 100000 in
theorem putText14 (t : ByteArray) (w : World) (ht : t.size ≤ 1000000) (hV : Vars w.heap.size w) :
    Calls Tryz.prog 39 #[.string t] w fun e w' => e = .returned (.string (B (putT t.data.toList))) ∧ Below w.heap.size w w' := by
  have C := Lib.hid (put12 t.size w (by unfold MX; omega) hV)
  have hl := putN_len20 (n := t.size) (by unfold MX; omega)
  have HT : Hid (B (putN t.size) ++ t = B (putT t.data.toList)) := Lib.hid (by
    conv => lhs; rw [← B_list t, B_append]
    unfold putT
    rw [size_list, B_list])
  clear hV
  go_enter Tryz.func39, Tryz.ntmps39
  go_wp2_with (go_at_call 62; refine C.out.mono ?_; rintro e w' ⟨rfl, hB⟩)
  go_ret
  exact ⟨ret_str HT.out, hB⟩

/-! ## GetText -/
/-- The text that stands at a place of a text. -/
def atT (l : List UInt8) (a : Int) : Option (List UInt8) := if 0 ≤ a ∧ a ≤ l.length then getT (l.drop a.toNat) else none
def retT (a : Int) : Option (List UInt8) → Value
  | none => .tuple #[.string ⟨#[]⟩, .int .i64 0, .bool false]
  | some t => .tuple #[.string (B t), .int .i64 (a + (putT t).length), .bool true]
theorem atN_place {l : List UInt8} {a : Int} {n : Nat} (h : atN l a = some n) : ∃ b : Nat, a = b ∧ b + (putN n).length ≤ l.length ∧ getN (l.drop b) = some n ∧ n ≤ MX := by
  unfold atN at h
  split at h
  · rename_i hc
    refine ⟨a.toNat, by omega, ?_, h, (getN_iff.1 h).1⟩
    have := (getN_iff.1 h).2.length_le
    rw [List.length_drop] at this
    omega
  · cases h
theorem atT_none_of {l : List UInt8} {a : Int} (h : atN l a = none) : atT l a = none := by
  unfold atN at h
  unfold atT
  split at h
  · rename_i hc
    rw [if_pos hc]
    unfold getT
    rw [h]
  · rename_i hc
    rw [if_neg hc]
theorem atT_some_of {l : List UInt8} {b n : Nat} (h : atN l b = some n) : atT l b = if n ≤ l.length - (b + (putN n).length) then some ((l.drop (b + (putN n).length)).take n) else none := by
  obtain ⟨c, hc, hle, hg, hn⟩ := atN_place h
  obtain rfl : b = c := by omega
  unfold atT
  rw [if_pos (by omega), Int.toNat_natCast]
  unfold getT
  rw [hg]
  simp only [List.drop_drop, List.length_drop]
theorem text_slice (s : ByteArray) (b m n : Nat) (h : b + m + n ≤ s.size) (W : World) : (Instr.slice 9 (.string s) (some (.int .i64 ((b : Int) + (m : Int)))) (some (.int .i64 ((b : Int) + (m : Int) + (n : Int)))) none).run Tryz.prog W = .ok (.string (B ((s.data.toList.drop (b + m)).take n))) W := by
  have := run_slice_string (P := Tryz.prog) W 9 s .i64 .i64 ((b : Int) + (m : Int)) ((b : Int) + (m : Int) + (n : Int)) Tryz.underlying9 (by omega) (by omega) (by omega)
  rw [this, show ((b : Int) + (m : Int)).toNat = b + m by omega, show ((b : Int) + (m : Int) + (n : Int)).toNat = b + m + n by omega, extract_B, show b + m + n - (b + m) = n by omega]

set_option maxHeartbeats 2000000 in
set_option maxRecDepth 100000 in
theorem getText22 (s : ByteArray) (a : Int) (w : World) (hs : s.size ≤ 140737488351232) (hV : Vars w.heap.size w) :
    Calls Tryz.prog 123 #[.string s, .int .i64 a] w fun e w' => e = .returned (retT a (atT s.data.toList a)) ∧ Below w.heap.size w w' := by
  have C := Lib.hid (get20 s a w hs hV)
  clear hV
  rcases hn : atN s.data.toList a with _ | n
  · rw [hn] at C
    have HT := Lib.hid (atT_none_of hn)
    clear hn
    simp only [retN] at C
    go_enter Tryz.func123, Tryz.ntmps123
    go_wp2_with fail
    go_at_call 125
    refine C.out.mono ?_
    rintro e w1 ⟨rfl, hB⟩
    go_wp2
    go_ret3
    exact ⟨by rw [HT.out]; rfl, hB⟩
  · obtain ⟨b, rfl, hle, -, hnm⟩ := atN_place hn
    have HT := Lib.hid (atT_some_of hn)
    rw [hn] at C
    rw [size_list] at hle
    have hn' : n ≤ 9223372036854775807 := hnm
    have HS := Lib.hid (fun h => text_slice s b (putN n).length n h)
    have HP : Hid (∃ m, m = (putN n).length) := Lib.hid ⟨_, rfl⟩
    simp only [retN] at C
    clear hn hnm
    by_cases hf : n ≤ s.size - (b + (putN n).length)
    · have HT2 : Hid (atT s.data.toList b = some ((s.data.toList.drop (b + (putN n).length)).take n)) := Lib.hid (by rw [HT.out, if_pos (by rw [size_list]; exact hf)])
      have HL : Hid ((putT ((s.data.toList.drop (b + (putN n).length)).take n)).length = (putN n).length + n) := Lib.hid (by
        have e : ((s.data.toList.drop (b + (putN n).length)).take n).length = n := by rw [List.length_take, List.length_drop, size_list]; omega
        unfold putT
        rw [List.length_append, e])
      have hsl := HS.out (by omega)
      generalize (s.data.toList.drop (b + (putN n).length)).take n = t at hsl HT2 HL
      clear HS HT HP
      generalize (putN n).length = m at hsl HL C hf hle
      go_enter Tryz.func123, Tryz.ntmps123
      go_wp2_with fail
      go_at_call 125
      refine C.out.mono ?_
      rintro e w1 ⟨rfl, hB⟩
      go_wp2
      go_ret3
      refine ⟨?_, hB⟩
      show Ending.returned (.tuple #[.string (B t), .int .i64 ((b : Int) + (m : Int) + (n : Int)), .bool true]) = _
      rw [HT2.out]
      simp only [retT]
      rw [HL.out, show ((b : Int) + (m : Int) + (n : Int)) = (b : Int) + ((m + n : Nat) : Int) by omega]
    · have HT2 : Hid (atT s.data.toList b = none) := Lib.hid (by rw [HT.out, if_neg (by rw [size_list]; exact hf)])
      clear HS HT HP
      generalize (putN n).length = m at C hf hle
      go_enter Tryz.func123, Tryz.ntmps123
      go_wp2_with fail
      go_at_call 125
      refine C.out.mono ?_
      rintro e w1 ⟨rfl, hB⟩
      go_wp2
      go_ret3
      exact ⟨by rw [HT2.out]; rfl, hB⟩

end Go.Proofs.YtmknbakfjhjfmaaGreatDoor.num
