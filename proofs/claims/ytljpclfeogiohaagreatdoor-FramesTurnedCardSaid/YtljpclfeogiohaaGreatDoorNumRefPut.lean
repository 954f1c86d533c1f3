/- The document's Put and PutText: the digits, last one first, and a colon. -/
import Derived.Test.YtljpclfeogiohaaGreatDoorNumPure
import Derived.Test.YtljpclfeogiohaaGreatDoorWords
import Derived.Lib.Strings
import Derived.Lib.Walk
import Derived.Lib.ConvBytes
namespace Go.Proofs.YtljpclfeogiohaaGreatDoor.num
open Go.RowKit Go.Lib

theorem B_append (a b : List UInt8) : B a ++ B b = B (a ++ b) := by
  show ByteArray.append _ _ = _
  simp [B, ByteArray.append]
theorem B_mk (a : Array UInt8) : (⟨a⟩ : ByteArray) = B a.toList := by simp [B]
theorem size_list (s : ByteArray) : s.data.toList.length = s.size := by rw [Array.length_toList]; rfl
theorem ret_str {a b : ByteArray} (h : a = b) : Ending.returned (.string a) = .returned (.string b) := by rw [h]
/-- Digits, none for 0. -/
def decz (m : Nat) : List UInt8 := if m = 0 then [] else decDigits m
def digOf (m : Nat) : UInt8 := UInt8.ofNat (48 + m % 10)
theorem decz_step (m : Nat) : decDigits m = decz (m / 10) ++ [digOf m] := by
  unfold decz digOf
  by_cases h : m < 10
  · rw [dec_small h, if_pos (by omega), Nat.mod_eq_of_lt h]; rfl
  · rw [dec_big h, if_neg (by omega)]
theorem digOf_nat (m : Nat) : (digOf m).toNat = 48 + m % 10 := dig_byte (m % 10) (by omega)

theorem conv_dig (W : World) (m : Nat) : (convert 40 9 (.slice (some ⟨W.heap.size, 0, none⟩) 1 1)).run Tryz.prog (W.alloc (.cells #[.int .u8 (48 + (m : Int) % 10)] 5)) = .ok (.string (B [digOf m])) (W.alloc (.cells #[.int .u8 (48 + (m : Int) % 10)] 5)) := by
  have h := run_convert_bytes_back (P := Tryz.prog) (W.alloc (.cells #[.int .u8 (48 + (m : Int) % 10)] 5)) 40 9 5 ⟨W.heap.size, 0, none⟩ 1 [digOf m] Tryz.underlying40 Tryz.underlying5 Tryz.underlying9 (fun j hj => by
    obtain rfl : j = 0 := by simpa using hj
    have hb := heap_alloc_new W (.cells #[.int .u8 (48 + (m : Int) % 10)] 5)
    rw [Go.WideShapes.add_plain, cell_of_row _ _ _ _ _ _ hb]
    simp [digOf_nat])
  exact h

set_option maxHeartbeats 1000000 in
set_option maxRecDepth 100000 in
theorem refPut13 (n : Nat) (w : World) (hn : n ≤ MX) :
    Calls Tryz.prog 35 #[.int .i64 n] w fun e w' => e = .returned (.string (B (putN n))) ∧ Below w.heap.size w w' := by
  have hn' : n ≤ 9223372036854775807 := hn
  clear hn
  have hcv := conv_dig
  go_enter Tryz.func35, Tryz.ntmps35
  go_wp2
  go_loopw [0, 3] (fun v0 v3 wr => ∃ (m : Nat) (x : List UInt8), v0 = .int .i64 m ∧ v3 = .string (B x) ∧ m ≤ 9223372036854775807 ∧ (B x).size ≤ 19 ∧ Hid (decDigits n = decz m ++ x) ∧ Below w.heap.size w wr) (fun v0 _ _ => (RowKit.intOf v0).toNat)
  case atStart => exact ⟨n / 10, [digOf n], by go_num, rfl, by omega, by rw [B_size]; simp, Lib.hid (decz_step n), (Below.refl _ _).alloc (Nat.le_refl _) _⟩
  case round =>
    obtain ⟨m, x, rfl, rfl, hm, hx, hd, hB⟩ := hrel
    have hz := hB.size
    by_cases h0 : 0 < m
    · have HN : Hid (decDigits n = decz (m / 10) ++ ([digOf m] ++ x)) := Lib.hid (by
        rw [hd.out, show decz m = decDigits m by unfold decz; rw [if_neg (by omega)], decz_step m, List.append_assoc])
      have hl : x.length ≤ 18 := by
        have h1 := congrArg List.length HN.out
        have h2 := dec_len19 (n := n) hn'
        simp only [List.length_append, List.length_singleton] at h1
        omega
      clear hd
      have hsum : (B [digOf m] ++ B x).size ≤ 19 := by rw [ByteArray.size_append, B_size, B_size, List.length_singleton]; omega
      go_wp2
      go_roundw
      case rel => exact ⟨m / 10, [digOf m] ++ x, by go_num, by rw [B_append], by omega, by rw [← B_append]; exact hsum, HN, hB.alloc (Nat.le_trans (Nat.le_refl _) hz) _⟩
      case measure => simp [RowKit.intOf]; omega
    · obtain rfl : m = 0 := by omega
      have HX : Hid (decDigits n = x) := Lib.hid (by have := hd.out; unfold decz at this; simpa using this)
      have hxl : x.length ≤ 19 := by rw [← B_size]; exact hx
      clear hd
      go_wp2
      go_ret
      refine ⟨ret_str ?_, hB⟩
      rw [B_mk, B_append, ← HX.out]
      rfl

set_option maxHeartbeats 1000000 in
set_option maxRecDepth 100000 in
theorem refPutNo13 (n : Int) (w : World) (hn : n < 0) :
    Calls Tryz.prog 35 #[.int .i64 n] w fun e w' => e = .returned (.string ⟨#[]⟩) ∧ w = w' := by
  go_enter Tryz.func35, Tryz.ntmps35
  go_wp2
  go_ret
  exact ⟨rfl, rfl⟩

set_option maxHeartbeats 1000000 in
set_option maxRecDepth 100000 in
theorem refPutText15 (t : ByteArray) (w : World) (ht : t.size ≤ 1000000) :
    Calls Tryz.prog 25 #[.string t] w fun e w' => e = .returned (.string (B (putT t.data.toList))) ∧ Below w.heap.size w w' := by
  have C := Lib.hid (refPut13 t.size w (by unfold MX; omega))
  have hl := putN_len20 (n := t.size) (by unfold MX; omega)
  have HT : Hid (B (putN t.size) ++ t = B (putT t.data.toList)) := Lib.hid (by
    conv => lhs; rw [← B_list t, B_append]
    unfold putT
    rw [size_list, B_list])
  go_enter Tryz.func25, Tryz.ntmps25
  go_wp2_with (go_at_call 35; refine C.out.mono ?_; rintro e w' ⟨rfl, hB⟩)
  go_ret
  exact ⟨ret_str HT.out, hB⟩
end Go.Proofs.YtljpclfeogiohaaGreatDoor.num
