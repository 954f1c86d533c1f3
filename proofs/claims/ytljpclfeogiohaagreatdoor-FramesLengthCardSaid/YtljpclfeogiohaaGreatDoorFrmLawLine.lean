/- FramesLine, walked. -/
import Derived.Test.YtljpclfeogiohaaGreatDoorFrmLawWalk
namespace Go.Proofs.YtljpclfeogiohaaGreatDoor.frm
open Go.RowKit Go.Lib

theorem itoa21 (n : Nat) (w : World) (hn : n ≤ num.MX) (hV : Vars w.heap.size w) :
    Calls Tryz.prog 21 #[.int .i64 n] w fun e w' => e = .returned (.string (B (decDigits n))) ∧ Below w.heap.size w w' := by
  unfold num.MX at hn
  refine (Tryz.strconv_Itoa n (by omega) (by omega) w hV.1.2.1).mono ?_
  rintro e w' ⟨rfl, k, os, rfl⟩
  refine ⟨?_, Lib.below_grow w.heap.size w (Nat.le_refl _) k os⟩
  rw [Lib.itoa_nonneg]
theorem count_take (s : ByteArray) (k : Nat) (h : k < s.size) : (s.data.toList.take (k + 1)).count 10 = (s.data.toList.take k).count 10 + if s[k] = 10 then 1 else 0 := by
  have hk : k < s.data.toList.length := by rw [size_list]; exact h
  rw [List.take_succ_eq_append_getElem hk, List.count_append]
  have : s.data.toList[k] = s[k] := rfl
  rw [this, List.count_singleton]
  by_cases h10 : s[k] = 10 <;> simp [h10]
theorem ten_is {c : UInt8} (h : c = 10) : ((c.toNat : Int) == 10) = true := by rw [h]; rfl
theorem ten_not {c : UInt8} (h : ¬ c = 10) : ((c.toNat : Int) == 10) = false := by
  rw [beq_eq_false_iff_ne]
  intro e
  exact h (UInt8.toNat_inj.1 (by show c.toNat = 10; omega))
/-- What FramesLine asks of a frame. -/
structure Lined (p F : ByteArray) (x : List UInt8) : Prop where
  size : F.size = x.length + 1 + p.size + 9
  front : ∀ W, (Instr.slice 9 (.string F) none (some (.int .i64 ((x.length : Int) + 1 + (p.size : Int)))) none).run Tryz.prog W = .ok (.string (B x ++ ⟨#[58]⟩ ++ p)) W
  last : ∀ h, F[x.length + p.size + 9]'h = 10
  count : F.data.toList.count 10 = p.data.toList.count 10 + 1
theorem lined (p : ByteArray) : Lined p (B (frameL p.data.toList)) (decDigits p.size) := by
  have hl := frameL_length p.data.toList
  rw [num.putN_len, size_list p] at hl
  have e1 : B (decDigits p.size) ++ (⟨#[58]⟩ : ByteArray) ++ p = B (num.putN p.size ++ p.data.toList) := by
    rw [← B_append, B_list]; unfold num.putN; rw [← B_append]
  refine ⟨by rw [B_size (frameL p.data.toList)]; omega, fun W => ?_, fun h => ?_, by rw [list_B]; exact frameL_count _⟩
  · rw [e1]
    have hx : (num.putN p.size ++ p.data.toList).length = (decDigits p.size).length + 1 + p.size := by rw [List.length_append, num.putN_len, size_list]
    have := front_slice (B (frameL p.data.toList)) (num.putN p.size ++ p.data.toList) ((decDigits p.size).length + 1 + p.size) hx.symm (by
      rw [list_B, ← hx]; unfold frameL num.putT; rw [size_list, List.take_left]) (by rw [B_size (frameL p.data.toList)]; omega) W
    rw [show (((decDigits p.size).length + 1 + p.size : Nat) : Int) = ((decDigits p.size).length : Int) + 1 + (p.size : Int) by omega] at this
    exact this
  · have h1 := frameL_last p.data.toList
    rw [hl, show (decDigits p.size).length + 1 + p.size + 9 - 1 = (decDigits p.size).length + p.size + 9 by omega] at h1
    have h2 : (decDigits p.size).length + p.size + 9 < (frameL p.data.toList).length := by omega
    rw [List.getElem?_eq_getElem h2] at h1
    exact Option.some.inj h1
theorem count_all {s : ByteArray} {k : Nat} (h : s.size ≤ k) : (s.data.toList.take k).count 10 = s.data.toList.count 10 := by
  rw [List.take_of_length_le (by rw [size_list]; exact h)]

set_option maxHeartbeats 4000000 in
set_option maxRecDepth 100000 in
theorem law9 (p : ByteArray) (w : World) (hp : p.size ≤ maxLen) (hV : Vars w.heap.size w) :
    Calls Tryz.prog 9 #[.string p] w fun e w' => e = .returned (.bool true) ∧ Below w.heap.size w w' := by
  unfold maxLen at hp
  have DD := stands_at hV
  by_cases h1 : 15000 < p.size
  · clear hV
    go_enter Tryz.func9, Tryz.ntmps9
    go_wp2_with fail
    go_at_call 12
    refine (DD.out w (Below.refl _ _)).mono ?_
    rintro e w1 ⟨rfl, HB⟩
    go_wp2
    go_ret
    exact ⟨rfl, HB⟩
  have C1 := Lib.hid (frame13 p w (by omega) hV)
  have C2 := Lib.hid (fun W (hW : Below w.heap.size w W) => itoa21 p.size W (by unfold num.MX; omega) (hV.next hW))
  have L := lined p
  have hx := num.dec_len19 (n := p.size) (by unfold num.MX; omega)
  unfold retR at C1
  generalize B (frameL p.data.toList) = F at C1 L
  generalize decDigits p.size = x at C2 L hx
  have hF := L.size
  have SL := L.front
  have HL := Lib.hid L.last
  have HC := Lib.hid L.count
  clear hV L
  have HM : Hid (∀ m, F.size = m + 1 → ∀ h, F[m]'h = 10) := Lib.hid (fun m hm => by
    have e : m = x.length + p.size + 9 := by omega
    subst e; exact HL.out)
  have hpF : p.size < F.size := by omega
  have hFb : F.size ≤ 100000 := by omega
  have HF := Lib.hid hF
  clear HL
  go_enter Tryz.func9, Tryz.ntmps9
  go_wp2_with fail
  go_at_call 13
  refine C1.out.mono ?_
  rintro e w1 ⟨rfl, HB1⟩
  go_wp2_with fail
  go_at_call 21
  refine (C2.out w1 HB1).mono ?_
  rintro e w2 ⟨rfl, hB2⟩
  have HB2 := HB1.trans (hB2.mono HB1.size)
  clear C1 C2 hB2
  go_wp2_with fail
  clear hF SL hx
  go_loopg [6, 7, 8] F.size (fun g s6 s7 s8 wr => ∃ k a b : Nat, k ≤ F.size ∧ F.size - k ≤ g ∧ s8 = .int .i64 k ∧ wr = w2 ∧ s7 = .int .i64 a ∧ s6 = .int .i64 b ∧ a ≤ k ∧ b ≤ k ∧ Hid (a = (F.data.toList.take k).count 10 ∧ b = (p.data.toList.take k).count 10))
  case atStart => exact ⟨0, 0, 0, Nat.zero_le _, by omega, rfl, rfl, rfl, rfl, by omega, by omega, Lib.hid ⟨by simp, by simp⟩⟩
  case round =>
    obtain ⟨k, a, b, hk, hg, rfl, rfl, rfl, rfl, hak, hbk, HE⟩ := hrel
    by_cases hlt : k < F.size
    · have T := Lib.hid (count_take F k hlt)
      by_cases hpk : k < p.size
      · have U := Lib.hid (count_take p k hpk)
        by_cases ha : F[k] = 10
        · have ta := ten_is ha
          have T2 := Lib.hid (T.out.trans (by rw [if_pos ha]))
          clear T ha
          by_cases hb : p[k] = 10
          · have tb := ten_is hb
            have U2 := Lib.hid (U.out.trans (by rw [if_pos hb]))
            clear U hb
            go_wp2
            go_roundg (F.size - (k + 1))
            case measure => omega
            case rel => exact ⟨k + 1, a + 1, b + 1, by omega, by omega, by go_num, rfl, by go_num, by go_num, by omega, by omega, Lib.hid ⟨by rw [T2.out, HE.out.1], by rw [U2.out, HE.out.2]⟩⟩
          · have tb := ten_not hb
            have U2 := Lib.hid (U.out.trans (by rw [if_neg hb]))
            clear U hb
            go_wp2
            go_roundg (F.size - (k + 1))
            case measure => omega
            case rel => exact ⟨k + 1, a + 1, b, by omega, by omega, by go_num, rfl, by go_num, by go_num, by omega, by omega, Lib.hid ⟨by rw [T2.out, HE.out.1], by rw [U2.out, HE.out.2]; rfl⟩⟩
        · have ta := ten_not ha
          have T2 := Lib.hid (T.out.trans (by rw [if_neg ha]))
          clear T ha
          by_cases hb : p[k] = 10
          · have tb := ten_is hb
            have U2 := Lib.hid (U.out.trans (by rw [if_pos hb]))
            clear U hb
            go_wp2
            go_roundg (F.size - (k + 1))
            case measure => omega
            case rel => exact ⟨k + 1, a, b + 1, by omega, by omega, by go_num, rfl, by go_num, by go_num, by omega, by omega, Lib.hid ⟨by rw [T2.out, HE.out.1]; rfl, by rw [U2.out, HE.out.2]⟩⟩
          · have tb := ten_not hb
            have U2 := Lib.hid (U.out.trans (by rw [if_neg hb]))
            clear U hb
            go_wp2
            go_roundg (F.size - (k + 1))
            case measure => omega
            case rel => exact ⟨k + 1, a, b, by omega, by omega, by go_num, rfl, by go_num, by go_num, by omega, by omega, Lib.hid ⟨by rw [T2.out, HE.out.1]; rfl, by rw [U2.out, HE.out.2]; rfl⟩⟩
      · have U2 : Hid ((p.data.toList.take (k + 1)).count 10 = (p.data.toList.take k).count 10) := Lib.hid (by rw [count_all (by omega), count_all (by omega)])
        by_cases ha : F[k] = 10
        · have ta := ten_is ha
          have T2 := Lib.hid (T.out.trans (by rw [if_pos ha]))
          clear T ha
          go_wp2
          go_roundg (F.size - (k + 1))
          case measure => omega
          case rel => exact ⟨k + 1, a + 1, b, by omega, by omega, by go_num, rfl, by go_num, by go_num, by omega, by omega, Lib.hid ⟨by rw [T2.out, HE.out.1], by rw [U2.out, HE.out.2]⟩⟩
        · have ta := ten_not ha
          have T2 := Lib.hid (T.out.trans (by rw [if_neg ha]))
          clear T ha
          go_wp2
          go_roundg (F.size - (k + 1))
          case measure => omega
          case rel => exact ⟨k + 1, a, b, by omega, by omega, by go_num, rfl, by go_num, by go_num, by omega, by omega, Lib.hid ⟨by rw [T2.out, HE.out.1]; rfl, by rw [U2.out, HE.out.2]⟩⟩
    · obtain rfl : k = F.size := by omega
      obtain rfl : a = b + 1 := by
        have h := HE.out
        rw [count_all (Nat.le_refl _), count_all (by omega)] at h
        have := HC.out
        omega
      have tm : (Instr.index 9 (.string F) (.int .i64 ((F.size : Int) - 1))).run Tryz.prog wr = .ok (.int .u8 10) wr := by
        obtain ⟨m, hm⟩ : ∃ m, F.size = m + 1 := ⟨F.size - 1, by omega⟩
        have hc := HM.out m hm (by omega)
        have h := run_index_string (P := Tryz.prog) wr 9 F .i64 (m : Int) Tryz.underlying9
        rw [dif_pos ⟨by omega, by omega⟩] at h
        have hc2 : F[((m : Int)).toNat]'(by omega) = 10 := hc
        rw [hc2] at h
        rw [show ((F.size : Int) - 1) = (m : Int) by omega]
        exact h
      clear HE HC HM HF
      go_wp2_with fail
      go_at_call 12
      refine (DD.out wr HB2).mono ?_
      rintro e w3 ⟨rfl, HB3⟩
      go_wp2
      go_ret
      exact ⟨rfl, HB3⟩
end Go.Proofs.YtljpclfeogiohaaGreatDoor.frm
