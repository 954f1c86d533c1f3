/- Templates: the document's Expand. -/
import Derived.Test.YtibflbepnlemmaaTplRef
namespace Go.Proofs.Ytibflbepnlemmaa.tpl
open Go.RowKit Go.Lib
set_option linter.unusedVariables false
set_option linter.unusedSimpArgs false
set_option linter.unnecessarySimpa false
set_option linter.unusedSectionVars false

theorem B_app (a b : List UInt8) : B a ++ B b = B (a ++ b) := by
  show ByteArray.append _ _ = _
  simp [B, ByteArray.append]
theorem add_B (o r : List UInt8) (h : o.length + r.length ≤ 4000000000) (W : World) : (binOp .add 9 (.string (B o)) (.string (B r))).run Try.prog W = .ok (.string (B (o ++ r))) W := by
  have h1 : ¬ (((B o).size + (B r).size : Nat) : Int) > IntKind.i64.max := by
    rw [B_size, B_size]
    have : IntKind.i64.max = 9223372036854775807 := by decide
    omega
  have h2 : ¬ IntKind.i64.max < ((B o).size : Int) + ((B r).size : Int) := by
    have : (((B o).size + (B r).size : Nat) : Int) = ((B o).size : Int) + ((B r).size : Int) := by omega
    omega
  have h3 : ((B o).size : Int) + ((B r).size : Int) ≤ 9223372036854775807 := by
    rw [B_size, B_size]
    omega
  simp [binOp, Op.stringOp, h2, B_app]
  exact h3
theorem one_at (l : List UInt8) (k : Nat) (a : UInt8) (h : k < l.length) (ha : l.getD k 0 = a) (ki : Int) (hki : ki = (k : Int) + 1) (W : World) : (Instr.slice 9 (.string (B l)) (some (.int .i64 (k : Int))) (some (.int .i64 ki)) none).run Try.prog W = .ok (.string (B [a])) W := by
  rw [slice_mid l k (k + 1) k ki rfl (by omega) (by omega) h]
  have : (l.drop k).take (k + 1 - k) = [a] := by
    rw [drop_one l k h, ha, show k + 1 - k = 1 by omega]
    rfl
  rw [this]

set_option maxHeartbeats 4000000 in
set_option maxRecDepth 100000 in
theorem refExpand_is (l s : List UInt8) (f : Nat → Int) (w : World) (hl : l.length ≤ 1000000) (hs : s.length ≤ 1000000) (hx : (ex (stf f s) l).length ≤ 1000000000) :
    Calls Try.prog 15 #[.string (B l), .string (B s), .agg (spA f)] w fun e w' => e = .returned (.string (B (ex (stf f s) l))) ∧ Below w.heap.size w w' := by
  obtain ⟨m, hm⟩ : ∃ m, l.length = m := ⟨_, rfl⟩
  have hsz : (B l).size = m := by rw [B_size]; exact hm
  have HM := Lib.hid hm
  rw [hm] at hl
  clear hm
  have CS := Lib.hid (fun (n : Nat) (ni : Int) (hni : ni = n) (hn : n < 10) W => refStretch_is s f n ni hni hn W hs)
  have HSL := Lib.hid (fun n => stf_len f s n)
  have HS := Lib.hid hs
  generalize stf f s = S at *
  have HX := Lib.hid hx
  obtain ⟨R, hR⟩ : ∃ R, ex S l = R := ⟨_, rfl⟩
  have HR := Lib.hid hR
  rw [hR]
  clear hx hR hs
  go_enter Try.func15, Try.ntmps15
  go_wp2_with (refine wpList_boxSp rfl _ rfl f rfl ?_; intro w1 hs1 hp1 hb1)
  have HW1 := Lib.hid (And.intro hs1 (And.intro hp1 hb1))
  clear hs1 hp1 hb1
  go_loopg [7, 8, 9] m (fun g s7 s8 _ wr => ∃ (k : Nat) (o : List UInt8), s8 = .int .i64 k ∧ s7 = .string (B o) ∧ k ≤ m ∧ m - k ≤ g ∧ Hid (ex S l = o ++ ex S (l.drop k) ∧ Below w1.heap.size w1 wr))
  case atStart => exact ⟨0, [], rfl, rfl, Nat.zero_le _, by omega, Lib.hid ⟨rfl, Below.refl _ _⟩⟩
  case round =>
    obtain ⟨k, o, rfl, rfl, hk, hg, HI⟩ := hrel
    have hol : o.length ≤ 1000000000 := by
      have h1 := HX.out
      rw [HI.out.1, List.length_append] at h1
      omega
    by_cases hlt : k < m
    · have hkl : k < l.length := by rw [HM.out]; exact hlt
      have hd := drop_one l k hkl
      have ix := index_at l k k rfl hkl
      have HSP : Sp wr w.heap.size f := At.keep HW1.out.2.1 HI.out.2 (by rw [HW1.out.1]; omega)
      obtain ⟨a, hga⟩ : ∃ a, l.getD k 0 = a := ⟨_, rfl⟩
      have o1 := fun W => one_at l k a hkl hga ((k : Int) + 1) rfl W
      rw [hga] at hd ix
      have ad1 := fun W => add_B o [a] (by simp; omega) W
      clear hga hkl
      by_cases h38 : a = 38
      · subst h38
        have HE : Hid (ex S l = (o ++ S 0) ++ ex S (l.drop (k + 1))) := Lib.hid (by rw [HI.out.1, hd, ex_amp, List.append_assoc])
        have C0 := Lib.hid (CS.out 0 0 rfl (by omega) wr)
        have ad := fun W => add_B o (S 0) (by have := HSL.out 0; have := HS.out; omega) W
        have hrl : (S 0).length ≤ 1000000 := by have := HSL.out 0; have := HS.out; omega
        clear hd o1 ad1
        go_wp2_with (refine wpList_loadSp rfl _ rfl _ rfl f HSP ?_)
        go_at_call 23
        refine C0.out.mono ?_
        rintro e w2 ⟨rfl, hb2⟩
        have HB2 := Lib.hid hb2
        clear hb2 HSP C0
        go_wp2
        go_roundg (m - (k + 1))
        case measure => omega
        case rel => exact ⟨k + 1, _, by go_num, rfl, by omega, by omega, Lib.hid ⟨HE.out, HI.out.2.trans (HB2.out.mono HI.out.2.size)⟩⟩
      · have q38 := byte_no38 h38
        by_cases h92 : a = 92
        · subst h92
          by_cases h2 : k + 1 < m
          · have q3 : ((k : Int) + 1 == (m : Int)) = false := beq_eq_false_iff_ne.2 (by omega)
            have q4 : ¬ (k : Int) + 1 = (m : Int) := by omega
            have hkl2 : k + 1 < l.length := by rw [HM.out]; exact h2
            have hd2 := drop_one l (k + 1) hkl2
            have ix2 := index_at l (k + 1) ((k : Int) + 1) (by omega) hkl2
            obtain ⟨b, hgb⟩ : ∃ b, l.getD (k + 1) 0 = b := ⟨_, rfl⟩
            have o2 := fun W => one_at l (k + 1) b hkl2 hgb ((k : Int) + 1 + 1) (by omega) W
            rw [hgb] at hd2 ix2
            have ek : (((k + 1 : Nat) : Int)) = (k : Int) + 1 := by omega
            rw [ek] at o2
            have hex : ex S l = (o ++ esc S b) ++ ex S (l.drop (k + 2)) := by rw [HI.out.1, hd, hd2, ex_bs, List.append_assoc]
            clear hd hd2 hgb hkl2 ek o1 ad1
            by_cases hdg : digB b = true
            · have HE : Hid (ex S l = (o ++ S (b.toNat - 48)) ++ ex S (l.drop (k + 2))) := Lib.hid (by rw [hex]; simp [esc, hdg])
              obtain ⟨h1, h3⟩ : 49 ≤ b.toNat ∧ b.toNat ≤ 57 := by simpa [digB] using hdg
              have q5 : decide ((49 : Int) ≤ (b.toNat : Int)) = true := decide_eq_true (by omega)
              have q6 : decide ((b.toNat : Int) ≤ 57) = true := decide_eq_true (by omega)
              have C0 := Lib.hid (CS.out (b.toNat - 48) ((b.toNat : Int) - 48) (by omega) (by omega) wr)
              have ad := fun W => add_B o (S (b.toNat - 48)) (by have := HSL.out (b.toNat - 48); have := HS.out; omega) W
              have hrl : (S (b.toNat - 48)).length ≤ 1000000 := by have := HSL.out (b.toNat - 48); have := HS.out; omega
              clear hex hdg o2
              generalize S (b.toNat - 48) = sb at *
              go_wp2_with (refine wpList_loadSp rfl _ rfl _ rfl f HSP ?_)
              go_at_call 23
              refine C0.out.mono ?_
              rintro e w2 ⟨rfl, hb2⟩
              have HB2 := Lib.hid hb2
              clear hb2 HSP C0
              go_wp2
              go_roundg (m - (k + 2))
              case measure => omega
              case rel => exact ⟨k + 2, _, by go_num, rfl, by omega, by omega, Lib.hid ⟨HE.out, HI.out.2.trans (HB2.out.mono HI.out.2.size)⟩⟩
            · have hdg2 : digB b = false := by simpa using hdg
              have hno : ¬ (49 ≤ b.toNat ∧ b.toNat ≤ 57) := by simpa [digB] using hdg
              have QB : ∀ b1 : Bool, decide ((49 : Int) ≤ (b.toNat : Int)) = b1 → (b1 = true → decide ((b.toNat : Int) ≤ 57) = false) := by
                intro b1 hb1 hb2
                subst hb2
                exact decide_eq_false fun h => hno ⟨by have := of_decide_eq_true hb1; omega, by omega⟩
              by_cases h110 : b = 110
              · subst h110
                have HE : Hid (ex S l = (o ++ [10]) ++ ex S (l.drop (k + 2))) := Lib.hid (by rw [hex]; simp [esc, hdg2])
                have ad := fun W => add_B o [10] (by simp; omega) W
                clear hex hdg hdg2 hno QB o2 HSP
                go_wp2
                go_roundg (m - (k + 2))
                case measure => omega
                case rel => exact ⟨k + 2, _, by go_num, rfl, by omega, by omega, Lib.hid ⟨HE.out, HI.out.2⟩⟩
              · have HE : Hid (ex S l = (o ++ [b]) ++ ex S (l.drop (k + 2))) := Lib.hid (by rw [hex]; simp [esc, hdg2, h110])
                have ad := fun W => add_B o [b] (by simp; omega) W
                have q110 := byte_no110 h110
                clear hex hdg hdg2 hno HSP
                cases hb1 : decide ((49 : Int) ≤ (b.toNat : Int)) with
                | true =>
                  have q6 := QB true hb1 rfl
                  clear QB
                  go_wp2
                  go_roundg (m - (k + 2))
                  case measure => omega
                  case rel => exact ⟨k + 2, _, by go_num, rfl, by omega, by omega, Lib.hid ⟨HE.out, HI.out.2⟩⟩
                | false =>
                  clear QB
                  go_wp2
                  go_roundg (m - (k + 2))
                  case measure => omega
                  case rel => exact ⟨k + 2, _, by go_num, rfl, by omega, by omega, Lib.hid ⟨HE.out, HI.out.2⟩⟩
          · obtain rfl : m = k + 1 := by omega
            have HE : Hid (ex S l = (o ++ [92]) ++ ex S (l.drop (k + 1))) := Lib.hid (by
              have e : l.drop (k + 1) = [] := List.drop_eq_nil_of_le (by rw [HM.out]; exact Nat.le_refl _)
              rw [HI.out.1, hd, e]
              simp [ex])
            clear hd HSP
            go_wp2
            go_roundg (k + 1 - (k + 1))
            case measure => omega
            case rel => exact ⟨k + 1, _, by go_num, rfl, by omega, by omega, Lib.hid ⟨HE.out, HI.out.2⟩⟩
        · have q92 : ((a.toNat : Int) != 92) = true := by
            have := byte_no h92
            simpa using this
          have HE : Hid (ex S l = (o ++ [a]) ++ ex S (l.drop (k + 1))) := Lib.hid (by rw [HI.out.1, hd, ex_pl S h38 h92]; simp)
          clear hd HSP
          go_wp2
          go_roundg (m - (k + 1))
          case measure => omega
          case rel => exact ⟨k + 1, _, by go_num, rfl, by omega, by omega, Lib.hid ⟨HE.out, HI.out.2⟩⟩
    · obtain rfl : k = m := by omega
      go_wp2
      go_ret
      refine ⟨?_, HW1.out.2.2.trans (HI.out.2.mono (by rw [HW1.out.1]; omega))⟩
      have : R = o := by rw [← HR.out, HI.out.1, List.drop_eq_nil_of_le (by rw [HM.out]; exact Nat.le_refl _)]; simp [ex]
      rw [this]
      rfl
end Go.Proofs.Ytibflbepnlemmaa.tpl
