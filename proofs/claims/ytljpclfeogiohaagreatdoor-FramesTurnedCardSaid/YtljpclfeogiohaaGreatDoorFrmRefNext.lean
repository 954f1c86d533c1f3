/- What stands at a place of a text: the document's Next. -/
import Derived.Test.YtljpclfeogiohaaGreatDoorFrmNext
namespace Go.Proofs.YtljpclfeogiohaaGreatDoor.frm
open Go.RowKit Go.Lib
open Go.Proofs.YtljpclfeogiohaaGreatDoor.num (putN putT putN_len2 putN_len20 MX getT getT_iff getT_drop atT retT text_slice refGetText23)
open Go.Proofs.YtljpclfeogiohaaGreatDoor.sum (sumN sumN_lt hexN)

theorem nine_slice (s : ByteArray) (b m : Nat) (h : b + m + 9 ≤ s.size) (W : World) : (Instr.slice 9 (.string s) (some (.int .i64 ((b : Int) + (m : Int)))) (some (.int .i64 ((b : Int) + (m : Int) + 9))) none).run Tryz.prog W = .ok (.string (B ((s.data.toList.drop (b + m)).take 9))) W :=
  text_slice s b m 9 h W

set_option maxHeartbeats 4000000 in
set_option maxRecDepth 100000 in
theorem refNext16 (s : ByteArray) (a : Int) (w : World) (hs : s.size ≤ 40000) :
    Calls Tryz.prog 16 #[.string s, .int .i64 a] w fun e w' => e = .returned (retF a (nextAt s.data.toList a)) ∧ Below w.heap.size w w' := by
  have C := Lib.hid (refGetText23 s a w (by omega))
  rcases ht : atT s.data.toList a with _ | t
  · rw [ht] at C
    have HN := Lib.hid (nextAt_none_of ht)
    clear ht
    simp only [retT] at C
    go_enter Tryz.func16, Tryz.ntmps16
    go_wp2_with fail
    go_at_call 29
    refine C.out.mono ?_
    rintro e w1 ⟨rfl, hB⟩
    go_wp2_with fail
    go_quiet (fail)
    go_wp2
    go_ret3
    exact ⟨by rw [HN.out]; rfl, below_drewN hB _⟩
  · obtain ⟨b, rfl, hle, hg⟩ := atT_place ht
    have HN := Lib.hid (nextAt_some_of hle hg)
    rw [ht] at C
    simp only [retT] at C
    have htl : t.length ≤ 40000 := by rw [putT_length, size_list] at hle; omega
    have hfl : (frameL t).length = (putT t).length + 9 := by rw [frameL_length, putT_length]
    have hts : (B t).size = t.length := B_size t
    rw [size_list] at hle
    have HF := Lib.hid hfl
    have CT := Lib.hid (fun W => tail26 (B t) W (by omega))
    rw [list_B] at CT
    have HX : Hid (tailL t = tailL t) := Lib.hid rfl
    have HM : Hid (t.length ≤ MF) := Lib.hid (by unfold MF; omega)
    have HD : Hid ((s.data.toList.drop (b + (putT t).length)).length = s.size - (b + (putT t).length)) := Lib.hid (by rw [List.length_drop, size_list])
    have h9 := tailL_length t
    have SL := Lib.hid (nine_slice s b (putT t).length)
    have d1 : decide ((t.length : Int) ≤ 4194304) = true := by simp; omega
    clear ht hg hfl
    generalize (putT t).length = m at C hle HN HF HD SL
    by_cases hf : b + m + 9 ≤ s.size
    · have SL2 := SL.out hf
      have d : decide ((b : Int) + (m : Int) + 9 ≤ (s.size : Int)) = true := by simp; omega
      generalize (s.data.toList.drop (b + m)).take 9 = y at SL2 HN
      generalize tailL t = x at CT HN h9
      clear SL HD HX
      by_cases hxy : y = x
      · subst hxy
        have HN2 : Hid (nextAt s.data.toList b = some t) := Lib.hid (by rw [HN.out, if_pos ⟨HM.out, rfl⟩])
        clear HN
        have e1 : (y == y) = true := by simp
        go_enter Tryz.func16, Tryz.ntmps16
        go_wp2_with fail
        go_at_call 29
        refine C.out.mono ?_
        rintro e w1 ⟨rfl, hB⟩
        go_wp2_with fail
        go_quiet (first | (go_at_call 26; exact Calls.quiet_of_same ((CT.out _).mono fun _ _ h => ⟨h.1, h.2.symm⟩)))
        go_wp2
        go_ret3
        refine ⟨?_, below_drewN hB _⟩
        rw [HN2.out]
        simp only [retF]
        rw [HF.out]
        simp [Int.add_assoc]
      · have HN2 : Hid (nextAt s.data.toList b = none) := Lib.hid (by rw [HN.out, if_neg (fun h => hxy h.2)])
        clear HN
        have e1 : (y == x) = false := by simpa using hxy
        go_enter Tryz.func16, Tryz.ntmps16
        go_wp2_with fail
        go_at_call 29
        refine C.out.mono ?_
        rintro e w1 ⟨rfl, hB⟩
        go_wp2_with fail
        go_quiet (first | (go_at_call 26; exact Calls.quiet_of_same ((CT.out _).mono fun _ _ h => ⟨h.1, h.2.symm⟩)))
        go_wp2
        go_ret3
        exact ⟨by rw [HN2.out]; rfl, below_drewN hB _⟩
    · have HN2 : Hid (nextAt s.data.toList b = none) := Lib.hid (by
        rw [HN.out, if_neg (fun h => ?_)]
        have e1 := congrArg List.length h.2
        rw [List.length_take, HD.out, h9] at e1
        omega)
      have d : decide ((b : Int) + (m : Int) + 9 ≤ (s.size : Int)) = false := by simp; omega
      clear HN SL HD HX
      go_enter Tryz.func16, Tryz.ntmps16
      go_wp2_with fail
      go_at_call 29
      refine C.out.mono ?_
      rintro e w1 ⟨rfl, hB⟩
      go_wp2_with fail
      go_quiet (fail)
      go_wp2
      go_ret3
      exact ⟨by rw [HN2.out]; rfl, below_drewN hB _⟩
end Go.Proofs.YtljpclfeogiohaaGreatDoor.frm
