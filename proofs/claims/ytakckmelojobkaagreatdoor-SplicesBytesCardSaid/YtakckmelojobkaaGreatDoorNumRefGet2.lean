/- The document's Get, walked. -/
import Derived.Test.YtakckmelojobkaaGreatDoorNumPure
import Derived.Test.YtakckmelojobkaaGreatDoorNumCut
import Derived.Test.YtakckmelojobkaaGreatDoorNumRefGet
namespace Go.Proofs.YtakckmelojobkaaGreatDoor.num
open Go.RowKit Go.Lib

theorem put_slice (s : ByteArray) (a m : Nat) (h : a + m ≤ s.size) (W : World) : (Instr.slice 9 (.string s) (some (.int .i64 a)) (some (.int .i64 ((a : Int) + (m : Int)))) none).run Tryz.prog W = .ok (.string (B ((s.data.toList.drop a).take m))) W := by
  have := run_slice_string (P := Tryz.prog) W 9 s .i64 .i64 (a : Int) ((a : Int) + (m : Int)) Tryz.underlying9 (by omega) (by omega) (by omega)
  rw [this, Int.toNat_natCast, show ((a : Int) + (m : Int)).toNat = a + m by omega, extract_B, show a + m - a = m by omega]

/-- The number that was gone through is the one that stands there, if its bytes do. -/
def Judged (l : List UInt8) (acc : Nat) : Prop := acc ≤ MX ∧ ∀ n, getN l = some n → n = acc
theorem Judged.yes {l : List UInt8} {acc : Nat} (h : Judged l acc) (hp : l.take (putN acc).length = putN acc) : getN l = some acc :=
  getN_iff.2 ⟨h.1, by rw [← hp]; exact List.take_prefix _ _⟩
theorem Judged.no {l : List UInt8} {acc : Nat} (h : Judged l acc) (hp : ¬ l.take (putN acc).length = putN acc) : getN l = none := by
  rcases hg : getN l with _ | n
  · rfl
  · exfalso
    have := h.2 n hg
    subst this
    obtain ⟨r, hr⟩ := (getN_iff.1 hg).2
    apply hp
    rw [← hr, List.take_left]

set_option maxHeartbeats 8000000 in
set_option maxRecDepth 100000 in
theorem refGet21 (s : ByteArray) (a : Nat) (w : World) (hs : s.size ≤ 140737488351232) (ha : a ≤ s.size) :
    Calls Tryz.prog 19 #[.string s, .int .i64 a] w fun e w' => e = .returned (retN a (getN (s.data.toList.drop a))) ∧ Below w.heap.size w w' := by
  have hdl : (s.data.toList.drop a).length = s.size - a := by rw [List.length_drop, size_list]
  have hget : ∀ i (hi : i < s.size), a ≤ i → (s.data.toList.drop a)[i - a]? = some s[i] := fun i hi hai => by
    rw [List.getElem?_drop, show a + (i - a) = i by omega, List.getElem?_eq_getElem (by rw [size_list]; exact hi)]; rfl
  have HL := Lib.hid hdl
  have HGt := Lib.hid hget
  have HSL := Lib.hid (put_slice s a)
  clear hdl hget
  generalize s.data.toList.drop a = l at HL HGt HSL ⊢
  have d1 : decide ((a : Int) < 0) = false := by simp
  have d2 : decide (s.size < a) = false := by simp; omega
  go_enter Tryz.func19, Tryz.ntmps19
  go_wp2
  clear d1 d2
  go_loop [7, 8] (fun v7 v8 => ∃ (i acc : Nat) (x : Int), v7 = .int .i64 x ∧ v8 = .int .i64 i ∧ a ≤ i ∧ i ≤ s.size ∧ i ≤ a + 19 ∧ Hid (x = (acc : Int) ∧ RefAt l (i - a) acc)) (fun _ v8 => s.size - (RowKit.intOf v8).toNat)
  case atStart => exact ⟨a, 0, 0, rfl, rfl, Nat.le_refl _, ha, by omega, Lib.hid ⟨rfl, by rw [Nat.sub_self]; exact RefAt.start l⟩⟩
  case round =>
    obtain ⟨i, acc, x, rfl, rfl, hai, his, hi19, hh⟩ := hrel
    obtain ⟨hx, hR⟩ := hh.out
    clear hh
    have hacc : acc ≤ 9223372036854775807 := hR.2.2.2.2
    have x0 : 0 ≤ x := by omega
    have x1 : x ≤ 9223372036854775807 := by omega
    by_cases hd : ∃ hi : i < s.size, i < a + 19 ∧ 48 ≤ s[i].toNat ∧ s[i].toNat ≤ 57
    · obtain ⟨hi, hj, hc0, hc1⟩ := hd
      have hc := HGt.out i hi hai
      have hdig : isDig s[i] = true := by unfold isDig; simp; exact ⟨hc0, hc1⟩
      by_cases ho : MX < acc * 10 + (s[i].toNat - 48)
      · have HN := Lib.hid (hR.over hc hdig ho)
        have io : 9223372036854775807 < x * 10 + ((s[i].toNat : Int) - 48) := by unfold MX at ho; omega
        clear ho hR hx hc hdig hacc
        go_wp2
        go_ret3
        exact ⟨by rw [HN.out]; rfl, Below.refl _ _⟩
      · have hm : acc * 10 + (s[i].toNat - 48) ≤ MX := by omega
        have hst := hR.step hc hdig (by omega) hm
        have HN : Hid (x * 10 + ((s[i].toNat : Int) - 48) = ((acc * 10 + (s[i].toNat - 48) : Nat) : Int) ∧ RefAt l (i + 1 - a) (acc * 10 + (s[i].toNat - 48))) := Lib.hid ⟨by omega, by rw [show i + 1 - a = i - a + 1 by omega]; exact hst⟩
        have io : x * 10 + ((s[i].toNat : Int) - 48) ≤ 9223372036854775807 := by unfold MX at hm; omega
        clear ho hm hst hR hx hc hdig hacc
        go_wp2
        go_round
        case rel => exact ⟨i + 1, acc * 10 + (s[i].toNat - 48), _, rfl, by go_num, by omega, by omega, by omega, HN⟩
        case measure => simp [RowKit.intOf]; omega
    · have hJ : Judged l acc := ⟨hacc, fun n hn => hR.stop (by
        by_cases h1 : i < s.size
        · by_cases h2 : i < a + 19
          · right; right
            refine ⟨s[i], HGt.out i h1 hai, ?_⟩
            unfold isDig
            simp only [decide_eq_false_iff_not]
            exact fun h3 => hd ⟨h1, h2, h3.1, h3.2⟩
          · right; left; omega
        · left; rw [HL.out]; omega) n hn⟩
      have hJ := Lib.hid hJ
      obtain rfl : x = (acc : Int) := hx
      have hstop : ¬ i < s.size ∨ (i < s.size ∧ ¬ i < a + 19) ∨ (∃ hi : i < s.size, i < a + 19 ∧ s[i].toNat < 48) ∨ (∃ hi : i < s.size, i < a + 19 ∧ 48 ≤ s[i].toNat ∧ 57 < s[i].toNat) := by
        by_cases h1 : i < s.size
        · by_cases h2 : i < a + 19
          · by_cases h3 : 48 ≤ s[i].toNat
            · refine .inr (.inr (.inr ⟨h1, h2, h3, ?_⟩))
              exact Nat.lt_of_not_le (fun h4 => hd ⟨h1, h2, h3, h4⟩)
            · exact .inr (.inr (.inl ⟨h1, h2, by omega⟩))
          · exact .inr (.inl ⟨h1, h2⟩)
        · exact .inl h1
      clear hd hR
      have hp20 := putN_len20 (n := acc) hacc
      obtain ⟨p, hp⟩ : ∃ p, p = putN acc := ⟨_, rfl⟩
      have C := Lib.hid (fun W => refPut13 acc W hacc)
      rw [← hp] at hp20 C
      have HP := Lib.hid hp
      clear hp
      have hfit : ¬ a + p.length ≤ s.size ∨ (a + p.length ≤ s.size ∧ l.take p.length = p) ∨ (a + p.length ≤ s.size ∧ ¬ l.take p.length = p) := by
        by_cases h1 : a + p.length ≤ s.size
        · by_cases h2 : l.take p.length = p
          · exact .inr (.inl ⟨h1, h2⟩)
          · exact .inr (.inr ⟨h1, h2⟩)
        · exact .inl h1
      rcases hfit with hf | ⟨hf, he⟩ | ⟨hf, he⟩
      · have HN : Hid (getN l = none) := Lib.hid (hJ.out.no (fun e => by
          have := congrArg List.length e
          rw [List.length_take, HL.out, ← HP.out] at this
          omega))
        rcases hstop with h1 | ⟨h1, h2⟩ | ⟨h1, h2, h3⟩ | ⟨h1, h2, h3, h4⟩
        all_goals (try (exfalso; omega))
        all_goals
          go_wp2_with fail
          go_at_call 16
          refine (C.out _).mono ?_
          rintro e w1 ⟨rfl, hB1⟩
          go_wp2
          go_ret3
          exact ⟨by rw [HN.out]; rfl, hB1⟩
      · have HN : Hid (getN l = some acc) := Lib.hid (hJ.out.yes (by rw [← HP.out]; exact he))
        have hsl := HSL.out p.length hf
        rw [he] at hsl
        have HE := Lib.hid he
        clear he
        rcases hstop with h1 | ⟨h1, h2⟩ | ⟨h1, h2, h3⟩ | ⟨h1, h2, h3, h4⟩
        all_goals
          go_wp2_with fail
          go_at_call 16
          refine (C.out _).mono ?_
          rintro e w1 ⟨rfl, hB1⟩
          go_wp2
          go_ret3
          refine ⟨?_, hB1⟩
          show Ending.returned (.tuple #[.int .i64 (acc : Int), .int .i64 ((a : Int) + (p.length : Int)), .bool true]) = _
          rw [HN.out, HP.out]
          rfl
      · have HN : Hid (getN l = none) := Lib.hid (hJ.out.no (by rw [← HP.out]; exact he))
        have hsl := HSL.out p.length hf
        have hne : ((B (l.take p.length)).toList == (B p).toList) = false := (Lib.bytes_beq_false_iff _ _).2 (fun e => he (B_inj e))
        have hne2 : (l.take p.length == p) = false := beq_eq_false_iff_ne.2 he
        have hl2 : (l.take p.length).length ≤ 20 := Nat.le_trans (List.length_take_le _ _) hp20
        generalize l.take p.length = y at hsl hne hne2 hl2
        have HE := Lib.hid he
        clear he
        rcases hstop with h1 | ⟨h1, h2⟩ | ⟨h1, h2, h3⟩ | ⟨h1, h2, h3, h4⟩
        all_goals
          go_wp2_with fail
          go_at_call 16
          refine (C.out _).mono ?_
          rintro e w1 ⟨rfl, hB1⟩
          go_wp2
          go_ret3
          exact ⟨by rw [HN.out]; rfl, hB1⟩
end Go.Proofs.YtakckmelojobkaaGreatDoor.num
