/- The frame of a payload, the program's and the document's. -/
import Derived.Test.YtljpclfeogiohaaGreatDoorFrmWords
namespace Go.Proofs.YtljpclfeogiohaaGreatDoor.frm
open Go.RowKit Go.Lib
open Go.Proofs.YtljpclfeogiohaaGreatDoor.num (putN putT putN_len2 putN_len20 MX)
open Go.Proofs.YtljpclfeogiohaaGreatDoor.sum (sumN sumN_lt hexN)

theorem hex_tail (p : List UInt8) : B (hexN (sumN p)) ++ (⟨#[10]⟩ : ByteArray) = B (tailL p) := by
  unfold tailL; exact B_append _ _

set_option maxHeartbeats 1000000 in
set_option maxRecDepth 100000 in
theorem tail26 (p : ByteArray) (w : World) (hp : p.size ≤ 40000) :
    Calls Tryz.prog 26 #[.string p] w fun e w' => e = .returned (.string (B (tailL p.data.toList))) ∧ w = w' := by
  have C1 := Lib.hid (sum.refSum12 p w hp)
  have C2 := Lib.hid (sum.refHex18 (sumN p.data.toList) w (sumN_lt _))
  have HT := Lib.hid (hex_tail p.data.toList)
  have hl := hexN_length (sumN p.data.toList)
  generalize hexN (sumN p.data.toList) = x at C2 HT hl
  generalize sumN p.data.toList = n at C1 C2
  go_enter Tryz.func26, Tryz.ntmps26
  go_wp2_with fail
  go_at_call 37
  refine C1.out.mono ?_
  rintro e w' ⟨rfl, rfl⟩
  go_wp2_with fail
  go_at_call 36
  refine C2.out.mono ?_
  rintro e w' ⟨rfl, rfl⟩
  go_wp2
  go_ret
  exact ⟨ret_str HT.out, rfl⟩

theorem put_tail (p : ByteArray) : B (putT p.data.toList) ++ B (tailL p.data.toList) = B (frameL p.data.toList) := by
  unfold frameL; exact B_append _ _
theorem put_hex (p : ByteArray) : B (putT p.data.toList) ++ B (hexN (sumN p.data.toList)) ++ (⟨#[10]⟩ : ByteArray) = B (frameL p.data.toList) := by
  rw [← put_tail, ByteArray.append_assoc, hex_tail]

/-- What Frame tells. -/
def retR (x : ByteArray) : Ending := .returned (.tuple #[.string x, .int .i64 0])
theorem putT_short (p : ByteArray) (h : p.size ≤ 1000000) : (putT p.data.toList).length ≤ 1000020 := by
  rw [putT_length, size_list]; have := putN_len20 (n := p.size) (by unfold MX; omega); omega

set_option maxHeartbeats 1000000 in
set_option maxRecDepth 100000 in
theorem refFrame14 (p : ByteArray) (w : World) (hp : p.size ≤ 40000) :
    Calls Tryz.prog 14 #[.string p] w fun e w' => e = retR (B (frameL p.data.toList)) ∧ Below w.heap.size w w' := by
  have C1 := Lib.hid (num.refPutText15 p w (by omega))
  have C2 := Lib.hid (fun W => tail26 p W hp)
  have HT := Lib.hid (put_tail p)
  have h1 := putT_short p (by omega)
  have h2 := tailL_length p.data.toList
  generalize putT p.data.toList = x at C1 HT h1
  generalize tailL p.data.toList = y at C2 HT h2
  go_enter Tryz.func14, Tryz.ntmps14
  go_wp2_with fail
  go_at_call 25
  refine C1.out.mono ?_
  rintro e w1 ⟨rfl, hB⟩
  go_wp2_with fail
  go_at_call 26
  refine (C2.out _).mono ?_
  rintro e w' ⟨rfl, rfl⟩
  go_wp2
  go_ret2
  exact ⟨by unfold retR; rw [← HT.out]; rfl, hB⟩

set_option maxHeartbeats 1000000 in
set_option maxRecDepth 100000 in
theorem frame13 (p : ByteArray) (w : World) (hp : p.size ≤ 1000000) (hV : Vars w.heap.size w) :
    Calls Tryz.prog 13 #[.string p] w fun e w' => e = retR (B (frameL p.data.toList)) ∧ Below w.heap.size w w' := by
  have C1 := Lib.hid (num.putText14 p w hp hV.1)
  have C2 := Lib.hid (fun W => sum.sum11 p W (by unfold maxLen; omega))
  have C3 := Lib.hid (fun (W : World) (hW : Below w.heap.size w W) => sum.hex17 (sumN p.data.toList) W (sumN_lt _) (hV.next hW).2.1)
  have HT := Lib.hid (put_hex p)
  have h1 := putT_short p hp
  have h2 := hexN_length (sumN p.data.toList)
  clear hV
  generalize putT p.data.toList = x at C1 HT h1
  generalize hexN (sumN p.data.toList) = y at C3 HT h2
  generalize sumN p.data.toList = n at C2 C3
  go_enter Tryz.func13, Tryz.ntmps13
  go_wp2_with fail
  go_at_call 22
  refine C1.out.mono ?_
  rintro e w1 ⟨rfl, hB⟩
  go_wp2_with fail
  go_at_call 24
  refine (C2.out _).mono ?_
  rintro e w' ⟨rfl, rfl⟩
  go_wp2_with fail
  go_at_call 23
  refine (C3.out _ hB).mono ?_
  rintro e w2 ⟨rfl, hB2⟩
  have hB3 := hB.trans (hB2.mono hB.size)
  go_wp2
  go_ret2
  exact ⟨by unfold retR; rw [← HT.out]; rfl, hB3⟩
end Go.Proofs.YtljpclfeogiohaaGreatDoor.frm
