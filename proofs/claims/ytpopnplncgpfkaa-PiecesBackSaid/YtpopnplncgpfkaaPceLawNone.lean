/- PiecesNone, walked. -/
import Derived.Test.YtpopnplncgpfkaaPceDoes
namespace Go.Proofs.Ytpopnplncgpfkaa.pce
open Go.RowKit Go.Lib
set_option linter.unusedVariables false
set_option linter.unusedSimpArgs false
set_option linter.unnecessarySimpa false
set_option linter.unusedSectionVars false

/-- A list that came in: its lines, each of a length that may be. -/
structure InL (w : World) (A : Option Addr) (n c : Nat) (zs : List ByteArray) : Prop where
  lst : Lst w (· < w.heap.size) A n c zs
  few : n ≤ maxLen
  size : ∀ z ∈ zs, z.size ≤ maxLen

/-- Great, of a list that came in. -/
theorem great_in {w : World} {A : Option Addr} {n c : Nat} {zs : List ByteArray} (h : InL w A n c zs) (many bytes : Nat) (h1 : many ≤ 1000000) (h2 : bytes ≤ 1000000) :
    Calls Try.prog 10 #[.slice A n c, .int .i64 many, .int .i64 bytes] w (GreatSays zs many bytes w) :=
  great A c w.heap.size n many bytes zs w h.lst.len (by have := h.few; unfold maxLen at this; omega) h1 h2 h.size h.lst.srd

set_option maxHeartbeats 4000000 in
set_option maxRecDepth 100000 in
theorem law5 (a d : Int) (A : Option Addr) (n c : Nat) (zs : List ByteArray) (w : World) (ha1 : -9223372036854775808 ≤ a) (ha2 : a ≤ 9223372036854775807) (hd1 : -9223372036854775808 ≤ d) (hd2 : d ≤ 9223372036854775807) (h : InL w A n c zs) :
    Calls Try.prog 5 #[.int .i64 a, .int .i64 d, .slice A n c] w fun e w' => e = .returned (.bool true) ∧ Below w.heap.size w w' := by
  have C := Lib.hid (great_in h 100 5000 (by omega) (by omega))
  clear h
  have N : Hid (∀ W, NoTab W (.pointer none)) := Lib.hid (fun W => .inl rfl)
  go_enter Try.func5, Try.ntmps5
  go_wp2_with fail
  go_at_call 10
  refine C.out.mono ?_
  rintro e w' ⟨(rfl | ⟨rfl, g1, g2⟩), rfl⟩
  · go_wp2
    go_ret
    exact ⟨rfl, Below.refl _ _⟩
  clear C g1 g2
  go_wp2_with fail
  go_at_call 17
  refine (splice_no w _ a d A n c (N.out w)).mono ?_
  rintro e w1 ⟨rfl, hB1⟩
  have hz1 := hB1.size
  have HB1 := Lib.hid hB1
  clear hB1
  go_wp2_with fail
  go_at_call 24
  refine (line_no w1 _ a ha1 ha2 (N.out w1)).mono ?_
  rintro e w2 ⟨rfl, hB2⟩
  have hz2 := hB2.size
  have HB2 := Lib.hid (HB1.out.trans (hB2.mono hz1))
  have E : told none = .returned (.tuple #[.string ⟨#[]⟩, .bool false]) := rfl
  rw [E]
  clear hB2 HB1 E
  go_wp2_with fail
  go_at_call 21
  refine (len_no _ _ (N.out _)).mono ?_
  rintro e w3 ⟨rfl, hw3⟩
  have HW3 := Lib.hid hw3
  have P3 := Lib.hid (show At w3 w2.heap.size 52 #[.bool false, .slice none 0 0] by rw [← hw3]; exact At.new _ _ _)
  have HB3 := Lib.hid (show Below w.heap.size w w3 by rw [← hw3]; exact HB2.out.alloc (by omega) _)
  have hz3 : w2.heap.size < w3.heap.size := P3.out.lt
  clear hw3 HW3 HB2
  go_wp2_with fail
  go_at_call 26
  refine (lines_no w3 _ a d ha1 ha2 hd1 hd2 (N.out w3)).mono ?_
  rintro e w4 ⟨x, rfl, A4, n4, c4, rfl, hn4, _, hB4⟩
  obtain rfl : n4 = 0 := hn4
  have hz4 := hB4.size
  have P4 := Lib.hid (P3.out.same (hB4.block _ hz3))
  have HB4 := Lib.hid (HB3.out.trans (hB4.mono (by omega)))
  clear hB4 P3 HB3
  go_wp2_with fail
  go_at_call 22
  refine (text_no w4 _ (N.out w4)).mono ?_
  rintro e w5 ⟨rfl, hB5⟩
  have hz5 := hB5.size
  have P5 := Lib.hid (P4.out.same (hB5.block _ (by omega)))
  have HB5 := Lib.hid (HB4.out.trans (hB5.mono (by omega)))
  clear hB5 P4 HB4
  go_wp2_with fail
  go_at_call 27
  refine (compact_no w5 _ (N.out w5)).mono ?_
  rintro e w6 ⟨rfl, rfl⟩
  go_wp2_with fail
  go_at_call 28
  refine (pieces_no w5 _ (N.out w5)).mono ?_
  rintro e w6 ⟨rfl, rfl⟩
  go_wp2_with fail
  go_at_call 21
  refine (len_no w5 _ (.inr ⟨_, _, rfl, P5.out⟩)).mono ?_
  rintro e w6 ⟨rfl, rfl⟩
  go_wp2_with fail
  go_at_call 22
  refine (text_no w5 _ (.inr ⟨_, _, rfl, P5.out⟩)).mono ?_
  rintro e w6 ⟨rfl, hB6⟩
  have hz6 := hB6.size
  have HB6 := Lib.hid (HB5.out.trans (hB6.mono (by omega)))
  clear hB6 P5 HB5
  go_wp2_with fail
  go_at_call 16
  refine (does_is w6).mono ?_
  rintro e w7 ⟨rfl, hB7⟩
  have HB7 := Lib.hid (HB6.out.trans (hB7.mono (by omega)))
  clear hB7 HB6
  go_wp2
  go_ret
  exact ⟨rfl, HB7.out⟩
end Go.Proofs.Ytpopnplncgpfkaa.pce
