/- The document's PutList. -/
import Derived.Test.YtakckmelojobkaaGreatDoorNumPure
import Derived.Test.YtakckmelojobkaaGreatDoorNumPutList
namespace Go.Proofs.YtakckmelojobkaaGreatDoor.num
open Go.RowKit Go.Lib

set_option maxHeartbeats 2000000 in
set_option maxRecDepth 100000 in
theorem refPutList17 (A : Option Addr) (c n : Nat) (zs : List ByteArray) (w : World) (hn : n = zs.length) (hb1 : n ≤ 100000) (ht : tot zs ≤ 1000000) (h1 : SRd w w.heap.size A zs) :
    Calls Tryz.prog 17 #[.slice A n c] w fun e w' => e = .returned (.string (B (putL (bytesOf zs)))) ∧ Below w.heap.size w w' := by
  have H1 := Lib.hid hn
  have HKL := Lib.hid (fun k => putK_len n zs k (by unfold MX; omega) ht)
  have HT := Lib.hid ht
  clear hn ht
  have C := Lib.hid (refPut13 n w (by unfold MX; omega))
  go_enter Tryz.func17, Tryz.ntmps17
  go_wp2_with fail
  go_at_call 16
  refine C.out.mono ?_
  rintro e w1 ⟨rfl, hB1⟩
  clear C
  rw [← putK_zero n zs]
  go_wp2_with fail
  go_loopg [3, 4] n (fun g s3 s4 wr => ∃ k : Nat, k ≤ n ∧ n - k ≤ g ∧ s4 = .int .i64 k ∧ s3 = .string (B (putK n zs k)) ∧ Below w.heap.size w wr)
  case atStart => exact ⟨0, Nat.zero_le _, by omega, rfl, rfl, hB1⟩
  case round =>
    obtain ⟨k, hk, hg, rfl, rfl, hbw⟩ := hrel
    have hsz := hbw.size
    clear hB1
    by_cases hlt : k < n
    · obtain ⟨p1, o1, rfl, _, hc1⟩ := (h1.below hbw) (by rw [← H1.out]; omega)
      have g1 : wr.cell? ⟨p1, o1 + k, none⟩ = some (.string (zs.getD k ByteArray.empty)) := hc1 k (by rw [← H1.out]; omega)
      have hkz : k < zs.length := by rw [← H1.out]; exact hlt
      have T := Lib.hid (putK_succ n zs k hkz)
      have hsz2 : (zs.getD k ByteArray.empty).size ≤ 1000000 := by have := size_le_tot hkz; have := HT.out; omega
      have hl : (putK n zs k).length ≤ 4000000 := by
        have := HKL.out k; have := tot_take_le zs k; have := HT.out; have := List.length_take_le k zs; omega
      clear hc1 hkz
      generalize hxk : zs.getD k ByteArray.empty = x at g1 T hsz2
      clear hxk
      have hpl := putT_len x.data.toList (by rw [size_list]; unfold MX; omega)
      rw [size_list] at hpl
      generalize hy : putK n zs k = y at hl T
      generalize hz : putT x.data.toList = z at hpl T
      have HZ := Lib.hid hz
      clear hy hz
      go_wp2_with fail
      go_at_call 29
      refine (refPutText15 x wr (by omega)).mono ?_
      rw [HZ.out]
      rintro e w3 ⟨rfl, hB3⟩
      have hbw3 := hbw.trans (hB3.mono hsz)
      clear hB3
      go_wp2
      go_roundg (n - (k + 1))
      case measure => omega
      case rel => exact ⟨k + 1, by omega, by omega, by go_num, by rw [T.out, B_append], hbw3⟩
    · have hkn : k = n := by omega
      subst hkn
      have hbn : Hid (putK k zs k = putL (bytesOf zs)) := Lib.hid (by rw [← putK_all, ← H1.out])
      clear h1
      go_wp2
      go_ret
      exact ⟨ret_str (congrArg B hbn.out), hbw⟩
end Go.Proofs.YtakckmelojobkaaGreatDoor.num
