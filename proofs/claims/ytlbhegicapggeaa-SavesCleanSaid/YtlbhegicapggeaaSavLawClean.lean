/- SavesClean, walked. -/
import Derived.Test.YtlbhegicapggeaaSavRun
namespace Go.Proofs.Ytlbhegicapggeaa.sav
open Go.RowKit Go.Lib Go.Maps Go.WideMaps fil
set_option linter.unusedVariables false
set_option linter.unusedSimpArgs false
set_option linter.unnecessarySimpa false
set_option linter.unusedSectionVars false

section
variable {n fb : Nat} {w0 w w' : World} {s s' : St} {F : Nat → Prop}
theorem fail_any (A : Option Addr) (c lo hi : Nat) (m : Int) (ks : List Int) (hkc : ks.length ≤ c) (hcm : c ≤ 9223372036854775807) (hnm : m ≤ 9223372036854775807) (hk : LRd w lo hi A (iv ks)) (h : Run n w0 fb s w) :
    Calls Try.prog 14 #[.pointer (some ⟨fb, 0, none⟩), .int .i64 m, .slice A ks.length c] w fun e w' => e = .returned (.int .i64 (sFail s m ks).1) ∧ Run n w0 fb (sFail s m ks).2 w' := by
  obtain ⟨F, h1, h2⟩ := h.is
  exact (fail_is A c lo hi m ks w hkc hcm hnm hk h2).mono fun e w' ⟨he, hW⟩ => ⟨he, Run.went h.below h.room h1 hW⟩

set_option maxHeartbeats 4000000 in
set_option maxRecDepth 100000 in
theorem lawClean (text left : ByteArray) (m : Nat) (w : World) (ht : text.size ≤ maxLen) (hl : left.size ≤ maxLen) (hm : m < 256)
    (hdoes : Hid (∀ W, Calls Try.prog 12 #[] W fun e w' => e = .returned (.bool true) ∧ Below W.heap.size W w')) :
    Calls Try.prog 6 #[.string text, .string left, .int .u8 m] w fun e w' => e = .returned (.bool true) ∧ Below w.heap.size w w' := by
  have ht9 : text.size ≤ 9223372036854775807 := by unfold maxLen at ht; omega
  have hl9 : left.size ≤ 9223372036854775807 := by unfold maxLen at hl; omega
  by_cases z1 : 1000 < text.size
  · clear hdoes
    go_enter Try.func6, Try.ntmps6
    go_wp2
    go_ret
    exact ⟨rfl, Below.refl _ _⟩
  by_cases z2 : 1000 < left.size
  · clear hdoes
    go_enter Try.func6, Try.ntmps6
    go_wp2
    go_ret
    exact ⟨rfl, Below.refl _ _⟩
  obtain ⟨k, hk3, hklt⟩ : ∃ k, m % 3 = k ∧ k < 3 := ⟨_, rfl, by omega⟩
  have hz : (m : Int) % 3 = (k : Int) := by omega
  clear hk3
  have ET : Hid (text.data.toList.length ≤ 1000) := Lib.hid (by have e : text.data.toList.length = text.size := (by simp); omega)
  have EL : Hid (left.data.toList.length ≤ 1000) := Lib.hid (by have e : left.data.toList.length = left.size := (by simp); omega)
  have ES : Hid ((left.size : Int) = (left.data.toList.length : Int)) := Lib.hid (by simp)
  have C0 := Lib.hid (new_run 5000 w (by omega) (by omega))
  have HT := Lib.hid ht
  have HL := Lib.hid hl
  clear ht hl
  go_enter Try.func6, Try.ntmps6
  go_wp2_with fail
  go_at_call 7
  refine C0.out.mono ?_
  rintro e w1 ⟨rfl, hR⟩
  clear C0
  have C := write_run ⟨#[97]⟩ text (by decide) HT.out hR
  rw [show (⟨#[97]⟩ : ByteArray).data.toList = [97] from rfl, left_write _ ET.out] at C
  have C := Lib.hid C
  clear hR
  go_wp2_with fail
  go_at_call 10
  refine C.out.mono ?_
  rintro e w2 ⟨rfl, hR⟩
  clear C
  have C := fail_any (some ⟨w2.heap.size, 0, none⟩) 2 w2.heap.size (w2.heap.size + 1) (k : Int) [0, (left.size : Int)] (by simp) (by omega) (by omega) (LRd.alloc w2 (iv [0, (left.size : Int)]) 3) (hR.move (up_alloc w2))
  have EF : sFail ⟨5000, onA text.data.toList, false, 0, none⟩ (k : Int) [0, (left.size : Int)] = (0, ⟨5000, onA text.data.toList, false, 0, some (k, [0, (left.data.toList.length : Int)])⟩) := by
    rw [ES.out]; exact left_fail _ _ _
  rw [EF] at C
  have C := Lib.hid C
  clear hR EF
  go_wp2_with fail
  go_at_call 14
  refine C.out.mono ?_
  rintro e w3 ⟨rfl, hR⟩
  clear C
  have C := write_run ⟨#[98]⟩ left (by decide) HL.out hR
  rw [show (⟨#[98]⟩ : ByteArray).data.toList = [98] from rfl, left_dies _ _ k hklt ET.out EL.out] at C
  have C := Lib.hid C
  clear hR
  go_wp2_with fail
  go_at_call 10
  refine C.out.mono ?_
  rintro e w4 ⟨rfl, hR⟩
  clear C
  have C := start_run (Nat.zero_le _) hR
  rw [left_start] at C
  have C := Lib.hid C
  clear hR
  go_wp2_with fail
  go_at_call 16
  refine C.out.mono ?_
  rintro e w5 ⟨rfl, hR⟩
  clear C
  have C : Hid (Calls Try.prog 17 #[.pointer (some ⟨w.heap.size + 1, 0, none⟩)] w5 (Tells w5 2 (strV [[97], [126]]))) := Lib.hid (names_run hR)
  have HR := Lib.hid hR
  clear hR
  go_wp2_with fail
  go_at_call 17
  refine C.out.mono ?_
  rintro e w6 ⟨A6, c6, rfl, _, _, _, hB6⟩
  have hR := HR.out.move hB6
  clear C HR hB6
  have C := load_run ⟨#[126]⟩ (by decide) hR
  rw [show (⟨#[126]⟩ : ByteArray).data.toList = dn from rfl, left_load] at C
  have C := Lib.hid C
  have HR := Lib.hid hR
  clear hR
  go_wp2_with fail
  go_at_call 9
  refine C.out.mono ?_
  rintro e w' ⟨rfl, rfl⟩
  clear C
  have C := clean_run HR.out
  rw [left_clean] at C
  have C := Lib.hid C
  clear HR
  go_wp2_with fail
  go_at_call 11
  refine C.out.mono ?_
  rintro e w7 ⟨rfl, hR⟩
  clear C
  have C : Hid (Calls Try.prog 17 #[.pointer (some ⟨w.heap.size + 1, 0, none⟩)] w7 (Tells w7 1 (strV [[97]]))) := Lib.hid (names_run hR)
  have HR := Lib.hid hR
  clear hR
  go_wp2_with fail
  go_at_call 17
  refine C.out.mono ?_
  rintro e w8 ⟨A, c, rfl, h1, h2, hL, hB⟩
  have hR := HR.out.move hB
  have C2 := Lib.hid (names_one A c 1 _ _ (w8.alloc (.cells #[.string ⟨#[97]⟩] 9)) w8.heap.size [97] (hL.below (up_alloc w8)) (by simp) (At.new w8 9 #[.string ⟨#[97]⟩]))
  have HR := Lib.hid (hR.move (up_alloc w8 (o := .cells #[.string ⟨#[97]⟩] 9)))
  clear C hL hR hB h2
  go_wp2_with fail
  go_at_call 18
  refine C2.out.mono ?_
  rintro e w9 ⟨rfl, hB9⟩
  have hR := HR.out.move hB9
  clear C2 hB9 HR
  have C := clean_run hR
  rw [left_clean2] at C
  have C := Lib.hid C
  clear hR
  go_wp2_with fail
  go_at_call 11
  refine C.out.mono ?_
  rintro e w10 ⟨rfl, hR⟩
  clear C
  have C := load_run ⟨#[97]⟩ (by decide) hR
  rw [show (⟨#[97]⟩ : ByteArray).data.toList = [97] from rfl, left_a, B_list] at C
  have C := Lib.hid C
  have HZ := Lib.hid hR.below
  clear hR
  go_wp2_with fail
  go_at_call 9
  refine C.out.mono ?_
  rintro e w' ⟨rfl, rfl⟩
  clear C
  go_wp2_with fail
  go_at_call 12
  refine (hdoes.out _).mono ?_
  rintro e w11 ⟨rfl, hB11⟩
  have HE := HZ.out.trans (hB11.mono HZ.out.size)
  go_wp2
  go_ret
  exact ⟨rfl, HE⟩
end
end Go.Proofs.Ytlbhegicapggeaa.sav
