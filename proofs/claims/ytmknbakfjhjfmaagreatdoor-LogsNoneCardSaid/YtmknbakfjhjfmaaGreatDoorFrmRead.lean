/- What stands at a place of a text: the program's read. -/
import Derived.Test.YtmknbakfjhjfmaaGreatDoorFrmWords
import Derived.Test.YtmknbakfjhjfmaaGreatDoorShelf
/-! The frame of a payload, the program's and the document's. -/
namespace Go.Proofs.YtmknbakfjhjfmaaGreatDoor.frm
open Go.RowKit Go.Lib
open Go.Proofs.YtmknbakfjhjfmaaGreatDoor.num (putN putT putN_len2 putN_len20 MX)
open Go.Proofs.YtmknbakfjhjfmaaGreatDoor.sum (sumN sumN_lt hexN)

theorem hex_tail (p : List UInt8) : B (hexN (sumN p)) ++ (⟨#[10]⟩ : ByteArray) = B (tailL p) := by
  unfold tailL; exact B_append _ _

theorem put_tail (p : ByteArray) : B (putT p.data.toList) ++ B (tailL p.data.toList) = B (frameL p.data.toList) := by
  unfold frameL; exact B_append _ _
theorem put_hex (p : ByteArray) : B (putT p.data.toList) ++ B (hexN (sumN p.data.toList)) ++ (⟨#[10]⟩ : ByteArray) = B (frameL p.data.toList) := by
  rw [← put_tail, ByteArray.append_assoc, hex_tail]

/-- What Frame tells. -/
def retR (x : ByteArray) : Ending := .returned (.tuple #[.string x, .int .i64 0])
theorem putT_short (p : ByteArray) (h : p.size ≤ 1000000) : (putT p.data.toList).length ≤ 1000020 := by
  rw [putT_length, size_list]; have := putN_len20 (n := p.size) (by unfold MX; omega); omega

set_option maxHeartbeats 1000000 in
set_option maxRecDepth 100000 in
theorem frame13 (p : ByteArray) (w : World) (hp : p.size ≤ 1000000) (hV : Vars w.heap.size w) :
    Calls Tryz.prog 19 #[.string p] w fun e w' => e = retR (B (frameL p.data.toList)) ∧ Below w.heap.size w w' := by
  have C1 := Lib.hid (num.putText14 p w hp hV.1)
  have C2 := Lib.hid (fun W => sum.sum11 p W (by unfold maxLen; omega))
  have C3 := Lib.hid (fun (W : World) (hW : Below w.heap.size w W) => sum.hex17 (sumN p.data.toList) W (sumN_lt _) (hV.next hW).2.1)
  have HT := Lib.hid (put_hex p)
  have h1 := putT_short p hp
  have h2 := hexN_length (sumN p.data.toList)
  clear hV
  generalize putT p.data.toList = x at C1 HT h1
  generalize hexN (sumN p.data.toList) = y at C3 HT h2
  generalize sumN p.data.toList = n at C2 C3
  go_enter Tryz.func19, Tryz.ntmps19
  go_wp2_with fail
  go_at_call 39
  refine C1.out.mono ?_
  rintro e w1 ⟨rfl, hB⟩
  go_wp2_with fail
  go_at_call 41
  refine (C2.out _).mono ?_
  rintro e w' ⟨rfl, rfl⟩
  go_wp2_with fail
  go_at_call 40
  refine (C3.out _ hB).mono ?_
  rintro e w2 ⟨rfl, hB2⟩
  have hB3 := hB.trans (hB2.mono hB.size)
  go_wp2
  go_ret2
  exact ⟨by unfold retR; rw [← HT.out]; rfl, hB3⟩
end Go.Proofs.YtmknbakfjhjfmaaGreatDoor.frm

/-! What stands at a place of a text: the program's read. -/
namespace Go.Proofs.YtmknbakfjhjfmaaGreatDoor.frm
open Go.RowKit Go.Lib
open Go.Proofs.YtmknbakfjhjfmaaGreatDoor.num (putN putT putN_len2 putN_len20 MX getT getT_iff getT_drop atT retT getText22 extract_end)
open Go.Proofs.YtmknbakfjhjfmaaGreatDoor.sum (sumN sumN_lt hexN)

/-- The payload of the frame that stands at a place. -/
def nextAt (l : List UInt8) (a : Int) : Option (List UInt8) := if 0 ≤ a ∧ a ≤ l.length then nextL (l.drop a.toNat) else none
theorem nextAt_none_of {l : List UInt8} {a : Int} (h : atT l a = none) : nextAt l a = none := by
  unfold atT at h
  unfold nextAt
  split at h
  · rename_i hc
    rw [if_pos hc]
    exact nextL_none h
  · rename_i hc
    rw [if_neg hc]
theorem atT_place {l : List UInt8} {a : Int} {t : List UInt8} (h : atT l a = some t) : ∃ b : Nat, a = b ∧ b + (putT t).length ≤ l.length ∧ getT (l.drop b) = some t := by
  unfold atT at h
  split at h
  · rename_i hc
    refine ⟨a.toNat, by omega, ?_, h⟩
    have := (getT_iff.1 h).2.length_le
    rw [List.length_drop] at this
    have h2 : 0 < (putT t).length := by rw [putT_length]; have := putN_len2 t.length; omega
    omega
  · cases h
theorem nextAt_nat {l : List UInt8} {b : Nat} (h : b ≤ l.length) : nextAt l b = nextL (l.drop b) := by
  unfold nextAt; rw [if_pos (by omega), Int.toNat_natCast]
/-- Said by what is behind the text. -/
theorem nextAt_some_of {l t : List UInt8} {b : Nat} (hle : b + (putT t).length ≤ l.length) (h : getT (l.drop b) = some t) :
    nextAt l b = if t.length ≤ MF ∧ (l.drop (b + (putT t).length)).take 9 = tailL t then some t else none := by
  rw [nextAt_nat (by omega), nextL_some h, List.drop_drop]
theorem nine_iff {L x : List UInt8} (hx : x.length = 8) : L.take 9 = x ++ [10] ↔ Lib.hasPrefix L x = true ∧ Lib.hasPrefix (L.drop 8) [10] = true := by
  unfold Lib.hasPrefix
  rw [List.isPrefixOf_iff_prefix, List.isPrefixOf_iff_prefix]
  constructor
  · intro h
    have e : L = x ++ ([10] ++ L.drop 9) := by
      conv => lhs; rw [← List.take_append_drop 9 L, h]
      simp
    refine ⟨⟨_, e.symm⟩, ⟨L.drop 9, ?_⟩⟩
    have e8 := congrArg (List.drop x.length) e
    rw [List.drop_left, hx] at e8
    exact e8.symm
  · rintro ⟨⟨r, rfl⟩, h⟩
    rw [← hx, List.drop_left] at h
    obtain ⟨r2, rfl⟩ := h
    rw [← List.append_assoc]
    have : (x ++ [10]).length = 9 := by simp [hx]
    rw [← this, List.take_left]

/-! ## strings.CutPrefix -/
set_option maxHeartbeats 1000000 in
theorem litYes (s p : ByteArray) (w : World) (h : Lib.hasPrefix s.data.toList p.data.toList = true) :
    Calls Tryz.prog 124 #[.string s, .string p] w fun e w' => e = .returned (.tuple #[.string (B (s.data.toList.drop p.size)), .bool true]) ∧ w = w' := by
  have C := Lib.hid (Tryz.stringslite_HasPrefix s p w)
  have hle : p.size ≤ s.size := by
    have := (List.isPrefixOf_iff_prefix.1 h).length_le
    rwa [size_list, size_list] at this
  rw [h] at C
  clear h
  have HE := Lib.hid (extract_end s p.size)
  go_enter Tryz.func124, Tryz.ntmps124
  go_wp2_with (go_at_call 118; refine C.out.mono ?_; rintro e w' ⟨rfl, rfl⟩)
  go_ret2
  exact ⟨by rw [← HE.out]; rfl, rfl⟩
set_option maxHeartbeats 1000000 in
theorem litNo (s p : ByteArray) (w : World) (h : Lib.hasPrefix s.data.toList p.data.toList = false) :
    Calls Tryz.prog 124 #[.string s, .string p] w fun e w' => e = .returned (.tuple #[.string s, .bool false]) ∧ w = w' := by
  have C := Lib.hid (Tryz.stringslite_HasPrefix s p w)
  rw [h] at C
  clear h
  go_enter Tryz.func124, Tryz.ntmps124
  go_wp2_with (go_at_call 118; refine C.out.mono ?_; rintro e w' ⟨rfl, rfl⟩)
  go_ret2
  exact ⟨rfl, rfl⟩
theorem cutYes (s p : ByteArray) (w : World) (h : Lib.hasPrefix s.data.toList p.data.toList = true) :
    Calls Tryz.prog 100 #[.string s, .string p] w fun e w' => e = .returned (.tuple #[.string (B (s.data.toList.drop p.size)), .bool true]) ∧ w = w' := by
  have C := Lib.hid (litYes s p w h)
  go_enter Tryz.func100, Tryz.ntmps100
  go_wp2_with fail
  go_at_call 124
  refine C.out.mono ?_
  rintro e w' ⟨rfl, rfl⟩
  go_wp2
  go_ret2
  exact ⟨rfl, rfl⟩
theorem cutNo (s p : ByteArray) (w : World) (h : Lib.hasPrefix s.data.toList p.data.toList = false) :
    Calls Tryz.prog 100 #[.string s, .string p] w fun e w' => e = .returned (.tuple #[.string s, .bool false]) ∧ w = w' := by
  have C := Lib.hid (litNo s p w h)
  go_enter Tryz.func100, Tryz.ntmps100
  go_wp2_with fail
  go_at_call 124
  refine C.out.mono ?_
  rintro e w' ⟨rfl, rfl⟩
  go_wp2
  go_ret2
  exact ⟨rfl, rfl⟩

theorem end_slice (s : ByteArray) (b m : Nat) (h : b + m ≤ s.size) (W : World) : (Instr.slice 9 (.string s) (some (.int .i64 ((b : Int) + (m : Int)))) none none).run Tryz.prog W = .ok (.string (B (s.data.toList.drop (b + m)))) W := by
  have := run_slice_string_l (P := Tryz.prog) W 9 s Tryz.underlying9 .i64 ((b : Int) + (m : Int)) (by omega) (by omega)
  rw [this, show ((b : Int) + (m : Int)).toNat = b + m by omega, extract_end]
end Go.Proofs.YtmknbakfjhjfmaaGreatDoor.frm
