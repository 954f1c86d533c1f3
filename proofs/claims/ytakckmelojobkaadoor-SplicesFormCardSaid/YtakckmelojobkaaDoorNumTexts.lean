/- Put, PutText and GetText, the program's and the document's. -/
import Derived.Test.YtakckmelojobkaaDoorNumPure
import Derived.Test.YtakckmelojobkaaDoorNumGet
import Derived.Test.YtakckmelojobkaaDoorNumRefGet2
namespace Go.Proofs.YtakckmelojobkaaDoor.num
open Go.RowKit Go.Lib

/-! ## Put -/
theorem itoa_put (n : Nat) : (⟨(Lib.itoa (n : Int)).toArray⟩ : ByteArray) ++ (⟨#[58]⟩ : ByteArray) = B (putN n) := by
  rw [Lib.itoa_nonneg, B_mk #[58]]
  exact B_append _ _

set_option maxHeartbeats 1000000 in
set_option maxRecDepth 100000 in
theorem put12 (n : Nat) (w : World) (hn : n ≤ MX) (hV : Vars w.heap.size w) :
    Calls Tryd.prog 42 #[.int .i64 n] w fun e w' => e = .returned (.string (B (putN n))) ∧ Below w.heap.size w w' := by
  have hn' : n ≤ 9223372036854775807 := hn
  have hl : (Lib.itoa (n : Int)).length ≤ 19 := by rw [Lib.itoa_nonneg]; exact dec_len19 hn
  have C := Lib.hid (Tryd.strconv_Itoa n (by omega) (by omega) w hV.2.1)
  have HI := Lib.hid (itoa_put n)
  clear hn hV
  generalize Lib.itoa (n : Int) = x at hl C HI
  go_enter Tryd.func42, Tryd.ntmps42
  go_wp2_with fail
  go_at_call 54
  refine C.out.mono ?_
  rintro e w' ⟨rfl, k, os, rfl⟩
  have hB := Lib.below_grow w.heap.size w (Nat.le_refl _) k os
  go_wp2
  go_ret
  exact ⟨ret_str HI.out, hB⟩

set_option maxHeartbeats 1000000 in
set_option maxRecDepth 100000 in
theorem putNo12 (n : Int) (w : World) (hn : n < 0) :
    Calls Tryd.prog 42 #[.int .i64 n] w fun e w' => e = .returned (.string ⟨#[]⟩) ∧ w = w' := by
  go_enter Tryd.func42, Tryd.ntmps42
  go_wp2
  go_ret
  exact ⟨rfl, rfl⟩

/-! ## GetText -/
/-- The text that stands at a place of a text. -/
def atT (l : List UInt8) (a : Int) : Option (List UInt8) := if 0 ≤ a ∧ a ≤ l.length then getT (l.drop a.toNat) else none
def retT (a : Int) : Option (List UInt8) → Value
  | none => .tuple #[.string ⟨#[]⟩, .int .i64 0, .bool false]
  | some t => .tuple #[.string (B t), .int .i64 (a + (putT t).length), .bool true]
theorem atN_place {l : List UInt8} {a : Int} {n : Nat} (h : atN l a = some n) : ∃ b : Nat, a = b ∧ b + (putN n).length ≤ l.length ∧ getN (l.drop b) = some n ∧ n ≤ MX := by
  unfold atN at h
  split at h
  · rename_i hc
    refine ⟨a.toNat, by omega, ?_, h, (getN_iff.1 h).1⟩
    have := (getN_iff.1 h).2.length_le
    rw [List.length_drop] at this
    omega
  · cases h
theorem atT_none_of {l : List UInt8} {a : Int} (h : atN l a = none) : atT l a = none := by
  unfold atN at h
  unfold atT
  split at h
  · rename_i hc
    rw [if_pos hc]
    unfold getT
    rw [h]
  · rename_i hc
    rw [if_neg hc]
theorem atT_some_of {l : List UInt8} {b n : Nat} (h : atN l b = some n) : atT l b = if n ≤ l.length - (b + (putN n).length) then some ((l.drop (b + (putN n).length)).take n) else none := by
  obtain ⟨c, hc, hle, hg, hn⟩ := atN_place h
  obtain rfl : b = c := by omega
  unfold atT
  rw [if_pos (by omega), Int.toNat_natCast]
  unfold getT
  rw [hg]
  simp only [List.drop_drop, List.length_drop]
theorem text_slice (s : ByteArray) (b m n : Nat) (h : b + m + n ≤ s.size) (W : World) : (Instr.slice 9 (.string s) (some (.int .i64 ((b : Int) + (m : Int)))) (some (.int .i64 ((b : Int) + (m : Int) + (n : Int)))) none).run Tryd.prog W = .ok (.string (B ((s.data.toList.drop (b + m)).take n))) W := by
  have := run_slice_string (P := Tryd.prog) W 9 s .i64 .i64 ((b : Int) + (m : Int)) ((b : Int) + (m : Int) + (n : Int)) Tryd.underlying9 (by omega) (by omega) (by omega)
  rw [this, show ((b : Int) + (m : Int)).toNat = b + m by omega, show ((b : Int) + (m : Int) + (n : Int)).toNat = b + m + n by omega, extract_B, show b + m + n - (b + m) = n by omega]

set_option maxHeartbeats 2000000 in
set_option maxRecDepth 100000 in
theorem getText22 (s : ByteArray) (a : Int) (w : World) (hs : s.size ≤ 140737488351232) (hV : Vars w.heap.size w) :
    Calls Tryd.prog 65 #[.string s, .int .i64 a] w fun e w' => e = .returned (retT a (atT s.data.toList a)) ∧ Below w.heap.size w w' := by
  have C := Lib.hid (get20 s a w hs hV)
  clear hV
  rcases hn : atN s.data.toList a with _ | n
  · rw [hn] at C
    have HT := Lib.hid (atT_none_of hn)
    clear hn
    simp only [retN] at C
    go_enter Tryd.func65, Tryd.ntmps65
    go_wp2_with fail
    go_at_call 57
    refine C.out.mono ?_
    rintro e w1 ⟨rfl, hB⟩
    go_wp2
    go_ret3
    exact ⟨by rw [HT.out]; rfl, hB⟩
  · obtain ⟨b, rfl, hle, -, hnm⟩ := atN_place hn
    have HT := Lib.hid (atT_some_of hn)
    rw [hn] at C
    rw [size_list] at hle
    have hn' : n ≤ 9223372036854775807 := hnm
    have HS := Lib.hid (fun h => text_slice s b (putN n).length n h)
    have HP : Hid (∃ m, m = (putN n).length) := Lib.hid ⟨_, rfl⟩
    simp only [retN] at C
    clear hn hnm
    by_cases hf : n ≤ s.size - (b + (putN n).length)
    · have HT2 : Hid (atT s.data.toList b = some ((s.data.toList.drop (b + (putN n).length)).take n)) := Lib.hid (by rw [HT.out, if_pos (by rw [size_list]; exact hf)])
      have HL : Hid ((putT ((s.data.toList.drop (b + (putN n).length)).take n)).length = (putN n).length + n) := Lib.hid (by
        have e : ((s.data.toList.drop (b + (putN n).length)).take n).length = n := by rw [List.length_take, List.length_drop, size_list]; omega
        unfold putT
        rw [List.length_append, e])
      have hsl := HS.out (by omega)
      generalize (s.data.toList.drop (b + (putN n).length)).take n = t at hsl HT2 HL
      clear HS HT HP
      generalize (putN n).length = m at hsl HL C hf hle
      go_enter Tryd.func65, Tryd.ntmps65
      go_wp2_with fail
      go_at_call 57
      refine C.out.mono ?_
      rintro e w1 ⟨rfl, hB⟩
      go_wp2
      go_ret3
      refine ⟨?_, hB⟩
      show Ending.returned (.tuple #[.string (B t), .int .i64 ((b : Int) + (m : Int) + (n : Int)), .bool true]) = _
      rw [HT2.out]
      simp only [retT]
      rw [HL.out, show ((b : Int) + (m : Int) + (n : Int)) = (b : Int) + ((m + n : Nat) : Int) by omega]
    · have HT2 : Hid (atT s.data.toList b = none) := Lib.hid (by rw [HT.out, if_neg (by rw [size_list]; exact hf)])
      clear HS HT HP
      generalize (putN n).length = m at C hf hle
      go_enter Tryd.func65, Tryd.ntmps65
      go_wp2_with fail
      go_at_call 57
      refine C.out.mono ?_
      rintro e w1 ⟨rfl, hB⟩
      go_wp2
      go_ret3
      exact ⟨by rw [HT2.out]; rfl, hB⟩

end Go.Proofs.YtakckmelojobkaaDoor.num
