/- lines.Join: all lines, each with a byte 10 behind it. -/
import Derived.Test.YtpopnplncgpfkaaBuilder
import Derived.Test.YtpopnplncgpfkaaGreat
namespace Go.Proofs.Ytpopnplncgpfkaa
open Go.RowKit Go.Shelf Go.Lib

theorem tot_take_le (zs : List ByteArray) (k : Nat) : tot (zs.take k) ≤ tot zs := by
  unfold tot
  conv => rhs; rw [← List.take_append_drop k zs]
  rw [List.map_append, List.sum_append]; omega
theorem size_le_tot {zs : List ByteArray} {k : Nat} (h : k < zs.length) : (zs.getD k ByteArray.empty).size ≤ tot zs := by
  have := tot_take zs k h; have := tot_take_le zs (k + 1); omega

set_option maxHeartbeats 1000000 in
set_option maxRecDepth 100000 in
theorem joinedSize25 (A : Option Addr) (c n₀ n : Nat) (zs : List ByteArray) (w : World) (hn : n = zs.length) (hb1 : n ≤ 1000000) (ht : tot zs ≤ 1000000) (h1 : SRd w n₀ A zs) :
    Calls Try.prog 47 #[.slice A n c] w fun e w' => e = .returned (.int .i64 ((tot zs + n : Nat) : Int)) ∧ w = w' := by
  have H1 := Lib.hid hn
  clear hn
  go_enter Try.func47, Try.ntmps47
  go_wp2
  go_loopg [3, 8] n (fun g s3 s8 wr => ∃ k r : Nat, k ≤ n ∧ n - k ≤ g ∧ s8 = .int .i64 k ∧ wr = w ∧ s3 = .int .i64 r ∧ r ≤ 2000000 ∧ r = tot (zs.take k) + k)
  case atStart => exact ⟨0, 0, Nat.zero_le _, by omega, rfl, rfl, rfl, by omega, by simp [tot]⟩
  case round =>
    obtain ⟨k, r, hk, hg, rfl, rfl, rfl, hr, heq⟩ := hrel
    have HE := Lib.hid heq
    clear heq
    by_cases hlt : k < n
    · obtain ⟨p1, o1, rfl, _, hc1⟩ := h1 (by rw [← H1.out]; omega)
      have g1 : wr.cell? ⟨p1, o1 + k, none⟩ = some (.string (zs.getD k ByteArray.empty)) := hc1 k (by rw [← H1.out]; omega)
      have hkz : k < zs.length := by rw [← H1.out]; exact hlt
      have T := Lib.hid (tot_take zs k hkz)
      have hsz : (zs.getD k ByteArray.empty).size ≤ 1000000 := by have := size_le_tot hkz; omega
      have hT2 : Hid (tot (zs.take (k + 1)) ≤ 1000000) := Lib.hid (by have := tot_take_le zs (k + 1); omega)
      clear hc1 h1 hkz
      generalize hxk : zs.getD k ByteArray.empty = x at g1 T hsz
      clear hxk
      go_wp2
      go_roundg (n - (k + 1))
      case measure => omega
      case rel =>
        refine ⟨k + 1, r + (x.size + 1), by omega, by omega, by go_num, rfl, by go_num, ?_, ?_⟩
        · have := T.out; have := HE.out; have := hT2.out; omega
        · have := T.out; have := HE.out; omega
    · have hkn : k = n := by omega
      subst hkn
      clear h1
      go_wp2
      go_ret
      refine ⟨ret_int ?_, rfl⟩
      have := HE.out; rw [H1.out, List.take_length] at this; rw [H1.out]; omega

def bytesOf (zs : List ByteArray) : List (List UInt8) := zs.map (·.data.toList)
theorem join_take (zs : List ByteArray) (k : Nat) (h : k < zs.length) : joinL (bytesOf (zs.take (k + 1))) = joinL (bytesOf (zs.take k)) ++ (zs.getD k ByteArray.empty).data.toList ++ [10] := by
  have e : zs.getD k ByteArray.empty = zs[k] := by simp [List.getD, List.getElem?_eq_getElem h]
  unfold bytesOf
  rw [e, List.take_succ_eq_append_getElem h, List.map_append, List.map_cons, List.map_nil, joinL_snoc]
theorem join_len (zs : List ByteArray) : (joinL (bytesOf zs)).length = tot zs + zs.length := by
  induction zs with
  | nil => rfl
  | cons z r ih =>
    have e0 : z.data.toList.length = z.size := by rw [Array.length_toList]; rfl
    have e1 : tot (z :: r) = z.size + tot r := by simp [tot]
    have e2 : joinL (bytesOf (z :: r)) = z.data.toList ++ 10 :: joinL (bytesOf r) := rfl
    rw [e1, e2, List.length_append, List.length_cons, List.length_cons, ih, e0]; omega
theorem byteCells_str (l : List UInt8) (s : ByteArray) : Lib.byteCells l ++ Lib.strCells s = Lib.byteCells (l ++ s.data.toList) := by
  simp [Lib.byteCells, Lib.strCells]

set_option maxHeartbeats 2000000 in
set_option maxRecDepth 100000 in
theorem join16 (A : Option Addr) (c n : Nat) (zs : List ByteArray) (w : World) (hn : n = zs.length) (hb1 : n ≤ 100000) (ht : tot zs ≤ 1000000) (h1 : SRd w w.heap.size A zs) :
    Calls Try.prog 38 #[.slice A n c] w fun e w' => e = .returned (.string (B (joinL (bytesOf zs)))) ∧ Below w.heap.size w w' := by
  have H1 := Lib.hid hn
  clear hn
  have C25 := fun (u : World) (hu : SRd u w.heap.size A zs) => joinedSize25 A c w.heap.size n zs u H1.out (by omega) ht hu
  go_enter Try.func38, Try.ntmps38
  go_wp2_with fail
  go_at_call 47
  refine (C25 _ (h1.alloc (Nat.le_refl _) _)).mono ?_
  rintro e w1 ⟨rfl, rfl⟩
  clear C25
  go_wp2_with fail
  go_at_call 46
  refine (Try.Builder_Grow_fresh w.heap.size w.heap.size (tot zs + n) _ (Nat.le_refl _) (heap_alloc_new w _) (by simp) (by omega)).mono ?_
  rintro e w1 ⟨rfl, hb, hB⟩
  have hB1 : Below w.heap.size w w1 := ((Below.refl _ w).alloc (Nat.le_refl _) _).trans hB
  go_wp2_with fail
  go_loopg [5, 11] n (fun g _ s11 wr => ∃ k : Nat, k ≤ n ∧ n - k ≤ g ∧ s11 = .int .i64 k ∧ Lib.IsBuilder 73 5 w.heap.size w.heap.size (Lib.byteCells (joinL (bytesOf (zs.take k)))) wr ∧ Below w.heap.size w wr)
  case atStart => exact ⟨0, Nat.zero_le _, by omega, rfl, .inr hb, hB1⟩
  case round =>
    obtain ⟨k, hk, hg, rfl, hbk, hbw⟩ := hrel
    have hsz := hbw.size
    by_cases hlt : k < n
    · obtain ⟨p1, o1, rfl, _, hc1⟩ := (h1.below hbw) (by rw [← H1.out]; omega)
      have g1 : wr.cell? ⟨p1, o1 + k, none⟩ = some (.string (zs.getD k ByteArray.empty)) := hc1 k (by rw [← H1.out]; omega)
      have hkz : k < zs.length := by rw [← H1.out]; exact hlt
      have T := Lib.hid (join_take zs k hkz)
      have hsz2 : (zs.getD k ByteArray.empty).size ≤ 1000000 := by have := size_le_tot hkz; omega
      have hl : (Lib.byteCells (joinL (bytesOf (zs.take k)))).length ≤ 2000000 := by
        rw [Lib.byteCells_length, join_len]; have := tot_take_le zs k; have := List.length_take_le k zs; omega
      clear hc1 hkz hb hB hB1
      generalize hxk : zs.getD k ByteArray.empty = x at g1 T hsz2
      clear hxk
      go_wp2_with fail
      go_at_call 48
      refine (writeString26 w.heap.size w.heap.size _ x _ hbk (by omega) hsz).mono ?_
      rintro e w2 ⟨rfl, hb2, hB2⟩
      have hl2 : (Lib.byteCells (joinL (bytesOf (zs.take k))) ++ Lib.strCells x).length ≤ 3000000 := by rw [List.length_append, Lib.strCells_length]; omega
      have hbw2 := hbw.trans hB2
      have hsz3 := hbw2.size
      go_wp2_with fail
      go_at_call 48
      refine (writeString26 w.heap.size w.heap.size _ ⟨#[10]⟩ _ (.inr hb2) (by show _ + 1 ≤ _; omega) hsz3).mono ?_
      rintro e w3 ⟨rfl, hb3, hB3⟩
      have hb4 : Hid (Lib.BuilderAt 73 5 w.heap.size w.heap.size (.pointer (some ⟨w.heap.size, 0, none⟩)) (Lib.byteCells (joinL (bytesOf (zs.take (k + 1))))) w3) := Lib.hid (by
        rw [byteCells_str, byteCells_str] at hb3
        rw [T.out]
        exact hb3)
      go_wp2
      go_roundg (n - (k + 1))
      case measure => omega
      case rel => exact ⟨k + 1, by omega, by omega, by go_num, .inr hb4.out, hbw2.trans hB3⟩
    · have hkn : k = n := by omega
      subst hkn
      have hbn : Hid (Lib.IsBuilder 73 5 w.heap.size w.heap.size (Lib.byteCells (joinL (bytesOf zs))) wr) := Lib.hid (by rw [H1.out, List.take_length] at hbk; exact hbk)
      clear hbk hb h1 hB hB1
      go_wp2_with fail
      go_at_call 49
      refine (Try.Builder_String_any w.heap.size w.heap.size _ _ hbn.out hsz).mono ?_
      rintro e w2 ⟨rfl, hB2⟩
      go_wp2
      go_ret
      exact ⟨rfl, hbw.trans hB2⟩
end Go.Proofs.Ytpopnplncgpfkaa
