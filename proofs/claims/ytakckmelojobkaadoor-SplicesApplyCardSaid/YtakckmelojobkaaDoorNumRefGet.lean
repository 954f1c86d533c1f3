/- The document's Get: the digits are gone through, put anew, and held against the text. -/
import Derived.Test.YtakckmelojobkaaDoorNumPure
import Derived.Test.YtakckmelojobkaaDoorWords
import Derived.Lib.Strings
import Derived.Lib.Walk
import Derived.Lib.ConvBytes
/-! The document's Put and PutText: the digits, last one first, and a colon. -/
namespace Go.Proofs.YtakckmelojobkaaDoor.num
open Go.RowKit Go.Lib

theorem B_append (a b : List UInt8) : B a ++ B b = B (a ++ b) := by
  show ByteArray.append _ _ = _
  simp [B, ByteArray.append]
theorem B_mk (a : Array UInt8) : (⟨a⟩ : ByteArray) = B a.toList := by simp [B]
theorem size_list (s : ByteArray) : s.data.toList.length = s.size := by rw [Array.length_toList]; rfl
theorem ret_str {a b : ByteArray} (h : a = b) : Ending.returned (.string a) = .returned (.string b) := by rw [h]
/-- Digits, none for 0. -/
def decz (m : Nat) : List UInt8 := if m = 0 then [] else decDigits m
def digOf (m : Nat) : UInt8 := UInt8.ofNat (48 + m % 10)
theorem decz_step (m : Nat) : decDigits m = decz (m / 10) ++ [digOf m] := by
  unfold decz digOf
  by_cases h : m < 10
  · rw [dec_small h, if_pos (by omega), Nat.mod_eq_of_lt h]; rfl
  · rw [dec_big h, if_neg (by omega)]
theorem digOf_nat (m : Nat) : (digOf m).toNat = 48 + m % 10 := dig_byte (m % 10) (by omega)

theorem conv_dig (W : World) (m : Nat) : (convert 77 9 (.slice (some ⟨W.heap.size, 0, none⟩) 1 1)).run Tryd.prog (W.alloc (.cells #[.int .u8 (48 + (m : Int) % 10)] 5)) = .ok (.string (B [digOf m])) (W.alloc (.cells #[.int .u8 (48 + (m : Int) % 10)] 5)) := by
  have h := run_convert_bytes_back (P := Tryd.prog) (W.alloc (.cells #[.int .u8 (48 + (m : Int) % 10)] 5)) 77 9 5 ⟨W.heap.size, 0, none⟩ 1 [digOf m] Tryd.underlying77 Tryd.underlying5 Tryd.underlying9 (fun j hj => by
    obtain rfl : j = 0 := by simpa using hj
    have hb := heap_alloc_new W (.cells #[.int .u8 (48 + (m : Int) % 10)] 5)
    rw [Go.WideShapes.add_plain, cell_of_row _ _ _ _ _ _ hb]
    simp [digOf_nat])
  exact h

end Go.Proofs.YtakckmelojobkaaDoor.num

/-! The document's Get: the digits are gone through, put anew, and held against the text. -/
namespace Go.Proofs.YtakckmelojobkaaDoor.num
open Go.RowKit Go.Lib

/-- The first j bytes are digits, and say acc. -/
def RefAt (l : List UInt8) (j acc : Nat) : Prop := j ≤ l.length ∧ j ≤ 19 ∧ (∀ c ∈ l.take j, isDig c = true) ∧ val 0 (l.take j) = acc ∧ acc ≤ MX
theorem RefAt.start (l : List UInt8) : RefAt l 0 0 := ⟨Nat.zero_le _, by omega, by simp, by rw [List.take_zero, val_nil], by omega⟩
theorem take_snoc {l : List UInt8} {j : Nat} {c : UInt8} (h : l[j]? = some c) : l.take (j + 1) = l.take j ++ [c] := by
  obtain ⟨hj, rfl⟩ := List.getElem?_eq_some_iff.1 h
  exact List.take_succ_eq_append_getElem hj
theorem RefAt.step {l : List UInt8} {j acc : Nat} {c : UInt8} (h : RefAt l j acc) (hc : l[j]? = some c) (hd : isDig c = true) (hj : j < 19) (hm : acc * 10 + (c.toNat - 48) ≤ MX) : RefAt l (j + 1) (acc * 10 + (c.toNat - 48)) := by
  obtain ⟨h1, h2, h3, h4, h5⟩ := h
  refine ⟨(List.getElem?_eq_some_iff.1 hc).1, by omega, ?_, ?_, hm⟩
  · rw [take_snoc hc]
    intro d hd'
    rcases List.mem_append.1 hd' with hd' | hd'
    · exact h3 d hd'
    · simp only [List.mem_singleton] at hd'
      rw [hd']; exact hd
  · rw [take_snoc hc, val_append, h4, val_cons, val_nil]
/-- Digits at the front are the front of the numeral that stands there. -/
theorem digits_front {l x : List UInt8} {n : Nat} (hx : x <+: l) (hd : ∀ c ∈ x, isDig c = true) (hn : putN n <+: l) : x <+: decDigits n := by
  obtain ⟨r, rfl⟩ := hn
  have hlen : x.length ≤ (decDigits n).length := by
    rcases Nat.lt_or_ge (decDigits n).length x.length with h | h
    · exfalso
      obtain ⟨r', hr⟩ := hx
      have h1 : (x ++ r')[(decDigits n).length]? = some 58 := by
        rw [hr]
        unfold putN
        rw [List.append_assoc, List.getElem?_append_right (Nat.le_refl _)]
        simp
      rw [List.getElem?_append_left h] at h1
      have := hd 58 (List.mem_of_getElem? h1)
      exact absurd this (by decide)
    · exact h
  have h2 : decDigits n <+: putN n ++ r := ⟨58 :: r, by unfold putN; simp⟩
  exact List.prefix_of_prefix_length_le hx h2 hlen
theorem RefAt.over {l : List UInt8} {j acc : Nat} {c : UInt8} (h : RefAt l j acc) (hc : l[j]? = some c) (hd : isDig c = true) (hm : MX < acc * 10 + (c.toNat - 48)) : getN l = none := by
  obtain ⟨h1, h2, h3, h4, h5⟩ := h
  rcases hg : getN l with _ | n
  · rfl
  · exfalso
    obtain ⟨hn, hp⟩ := getN_iff.1 hg
    have hx : l.take (j + 1) <+: decDigits n := digits_front (List.take_prefix _ _) (by
      rw [take_snoc hc]
      intro d hd'
      rcases List.mem_append.1 hd' with hd' | hd'
      · exact h3 d hd'
      · simp only [List.mem_singleton] at hd'
        rw [hd']; exact hd) hp
    obtain ⟨r, hr⟩ := hx
    have := congrArg (val 0) hr
    rw [val_append, take_snoc hc, val_append, h4, val_cons, val_nil, dec_val] at this
    have h6 := val_ge r (acc * 10 + (c.toNat - 48))
    omega
theorem RefAt.stop {l : List UInt8} {j acc : Nat} (h : RefAt l j acc) (hs : j = l.length ∨ j = 19 ∨ ∃ c, l[j]? = some c ∧ isDig c = false) (n : Nat) (hg : getN l = some n) : n = acc := by
  obtain ⟨h1, h2, h3, h4, h5⟩ := h
  obtain ⟨hn, hp⟩ := getN_iff.1 hg
  have hx := digits_front (List.take_prefix j l) h3 hp
  have hlen : (decDigits n).length ≤ j := by
    rcases hs with hs | hs | ⟨c, hc, hd⟩
    · have := hp.length_le
      rw [putN_len] at this
      omega
    · have := dec_len19 hn; omega
    · rcases Nat.lt_or_ge j (decDigits n).length with hlt | hge
      · exfalso
        obtain ⟨r, rfl⟩ := hp
        unfold putN at hc
        rw [List.append_assoc, List.getElem?_append_left hlt] at hc
        have := dec_dig n c (List.mem_of_getElem? hc)
        rw [hd] at this
        cases this
      · exact hge
  have hl : (l.take j).length = j := by rw [List.length_take]; omega
  have : l.take j = decDigits n := hx.eq_of_length_le (by omega)
  rw [← h4, this, dec_val]

/-- What is told of a number: it, and the place behind it. -/
def retN (a : Int) : Option Nat → Value
  | none => .tuple #[.int .i64 0, .int .i64 0, .bool false]
  | some n => .tuple #[.int .i64 n, .int .i64 (a + (putN n).length), .bool true]
/-- The number that stands at a place of a text. -/
def atN (l : List UInt8) (a : Int) : Option Nat := if 0 ≤ a ∧ a ≤ l.length then getN (l.drop a.toNat) else none

end Go.Proofs.YtakckmelojobkaaDoor.num
