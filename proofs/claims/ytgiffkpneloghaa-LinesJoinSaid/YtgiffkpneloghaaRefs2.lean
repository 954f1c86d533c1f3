/- The document's Join and Check (inkhornref01) and the law's Left, walked. -/
import Derived.Test.YtgiffkpneloghaaRefs
namespace Go.Proofs.Ytgiffkpneloghaa
open Go.RowKit Go.Shelf Go.Lib

set_option maxHeartbeats 1000000 in
set_option maxRecDepth 100000 in
theorem whole31 (s : ByteArray) (w : World) (hs : s.size ≤ 9223372036854775807) :
    Calls Try.prog 31 #[.string s] w fun e w' => e = .returned (.bool (!nl s)) ∧ w = w' := by
  have SZ := Lib.hid (size_list s)
  go_enter Try.func31, Try.ntmps31
  go_wp2
  go_loopg [3] s.size (fun g s3 wr => ∃ k : Nat, k ≤ s.size ∧ s.size - k ≤ g ∧ s3 = .int .i64 k ∧ wr = w ∧ ∀ j, j < k → s.data.toList[j]? ≠ some 10)
  case atStart => exact ⟨0, Nat.zero_le _, by omega, rfl, rfl, fun j hj => absurd hj (by omega)⟩
  case round =>
    obtain ⟨k, hk, hg, rfl, rfl, hno⟩ := hrel
    have HN := Lib.hid hno
    clear hno
    by_cases hlt : k < s.size
    · have hget : s.data.toList[k]? = some s[k] := by rw [List.getElem?_eq_getElem (by rw [SZ.out]; exact hlt)]; rfl
      have HG := Lib.hid hget
      clear hget
      by_cases h10 : s[k] = 10
      · have hI : ((s[k].toNat : Int) == 10) = true := by rw [h10]; rfl
        have HR : Hid (nl s = true) := Lib.hid (by rw [nl_iff]; exact List.mem_of_getElem? (by rw [HG.out, h10]))
        clear h10
        go_wp2
        go_ret
        exact ⟨by rw [HR.out]; rfl, rfl⟩
      · have hI : ((s[k].toNat : Int) == 10) = false := by
          have : ¬ s[k].toNat = 10 := fun e => h10 (UInt8.toNat_inj.1 e)
          simpa using fun h => this (by omega)
        have HN2 : Hid (∀ j, j < k + 1 → s.data.toList[j]? ≠ some 10) := Lib.hid (fun j hj => by
          by_cases e : j = k
          · subst e; rw [HG.out]; exact fun e => h10 (Option.some.inj e)
          · exact HN.out j (by omega))
        clear h10
        go_wp2
        go_roundg (s.size - (k + 1))
        case measure => omega
        case rel => exact ⟨k + 1, by omega, by omega, by go_num, rfl, HN2.out⟩
    · have hks : k = s.size := by omega
      subst hks
      have HR : Hid (nl s = false) := Lib.hid (by
        rw [Bool.eq_false_iff]
        intro h
        rw [nl_iff] at h
        obtain ⟨j, hj⟩ := List.getElem?_of_mem h
        have hjl := (List.getElem?_eq_some_iff.1 hj).1
        exact HN.out j (by rw [← SZ.out]; exact hjl) hj)
      go_wp2
      go_ret
      exact ⟨by rw [HR.out]; rfl, rfl⟩

set_option maxHeartbeats 1000000 in
set_option maxRecDepth 100000 in
theorem refJoin17 (A : Option Addr) (c n n₀ : Nat) (zs : List ByteArray) (w : World) (hn : n = zs.length) (hb1 : n ≤ 100000) (ht : tot zs ≤ 1000000) (h1 : SRd w n₀ A zs) :
    Calls Try.prog 17 #[.slice A n c] w fun e w' => e = .returned (.string (B (joinL (bytesOf zs)))) ∧ w = w' := by
  have H1 := Lib.hid hn
  clear hn
  go_enter Try.func17, Try.ntmps17
  go_wp2
  go_loopg [3, 4] n (fun g s3 s4 wr => ∃ (k : Nat) (q : ByteArray), k ≤ n ∧ n - k ≤ g ∧ s4 = .int .i64 k ∧ wr = w ∧ s3 = .string q ∧ q.size ≤ 2000000 ∧ q = B (joinL (bytesOf (zs.take k))))
  case atStart => exact ⟨0, _, Nat.zero_le _, by omega, rfl, rfl, rfl, by decide, rfl⟩
  case round =>
    obtain ⟨k, q, hk, hg, rfl, rfl, rfl, hq, heq⟩ := hrel
    have HE := Lib.hid heq
    clear heq
    by_cases hlt : k < n
    · obtain ⟨p1, o1, rfl, _, hc1⟩ := h1 (by rw [← H1.out]; omega)
      have g1 : wr.cell? ⟨p1, o1 + k, none⟩ = some (.string (zs.getD k ByteArray.empty)) := hc1 k (by rw [← H1.out]; omega)
      have hkz : k < zs.length := by rw [← H1.out]; exact hlt
      have T := Lib.hid (join_take zs k hkz)
      have hsz : (zs.getD k ByteArray.empty).size ≤ 1000000 := by have := size_le_tot hkz; omega
      have hL : Hid ((joinL (bytesOf (zs.take (k + 1)))).length ≤ 2000000) := Lib.hid (by
        rw [join_len]; have := tot_take_le zs (k + 1); have := List.length_take_le (k + 1) zs; omega)
      clear hc1 h1 hkz
      generalize hxk : zs.getD k ByteArray.empty = x at g1 T hsz
      clear hxk
      have HQ : Hid (q ++ x ++ ⟨#[10]⟩ = B (joinL (bytesOf (zs.take (k + 1))))) := Lib.hid (by
        rw [T.out, ← B_list (q ++ x ++ ⟨#[10]⟩), append_list, append_list, HE.out, list_B])
      go_wp2
      go_roundg (n - (k + 1))
      case measure => omega
      case rel => exact ⟨k + 1, q ++ x ++ ⟨#[10]⟩, by omega, by omega, by go_num, rfl, rfl, by rw [HQ.out, B_size]; exact hL.out, HQ.out⟩
    · have hkn : k = n := by omega
      subst hkn
      clear h1
      go_wp2
      go_ret
      refine ⟨?_, rfl⟩
      have := HE.out
      rw [H1.out, List.take_length] at this
      show Ending.returned (.string q) = _
      rw [this]

theorem any_take {p : ByteArray → Bool} (zs : List ByteArray) (k : Nat) (h : k < zs.length) : (zs.take (k + 1)).any p = ((zs.take k).any p || p (zs.getD k ByteArray.empty)) := by
  have e : zs.getD k ByteArray.empty = zs[k] := by simp [List.getD, List.getElem?_eq_getElem h]
  rw [e, List.take_succ_eq_append_getElem h, List.any_append]
  simp

set_option maxHeartbeats 2000000 in
set_option maxRecDepth 100000 in
theorem refCheck19 (A : Option Addr) (c n n₀ : Nat) (zs : List ByteArray) (w : World) (hn : n = zs.length) (hb1 : n ≤ 100000) (hz : ∀ z ∈ zs, z.size ≤ maxLen) (h1 : SRd w n₀ A zs) :
    Calls Try.prog 19 #[.slice A n c] w fun e w' => e = .returned (.int .i64 (chk zs)) ∧ w = w' := by
  have H1 := Lib.hid hn
  have HZ := Lib.hid hz
  clear hn hz
  go_enter Try.func19, Try.ntmps19
  go_wp2
  go_loopg [3, 4] n (fun g s3 s4 wr => ∃ (k : Nat) (b : Bool), k ≤ n ∧ n - k ≤ g ∧ s4 = .int .i64 k ∧ wr = w ∧ s3 = .bool b ∧ (b = (decide (2000 < n) || (zs.take k).any long)) ∧ (zs.take k).any nl = false)
  case atStart => exact ⟨0, _, Nat.zero_le _, by omega, rfl, rfl, rfl, by simp; omega, by simp⟩
  case round =>
    obtain ⟨k, b, hk, hg, rfl, rfl, rfl, heq, hno⟩ := hrel
    have HE := Lib.hid heq
    have HN := Lib.hid hno
    clear heq hno
    by_cases hlt : k < n
    · obtain ⟨p1, o1, rfl, _, hc1⟩ := h1 (by rw [← H1.out]; omega)
      have g1 : wr.cell? ⟨p1, o1 + k, none⟩ = some (.string (zs.getD k ByteArray.empty)) := hc1 k (by rw [← H1.out]; omega)
      have hkz : k < zs.length := by rw [← H1.out]; exact hlt
      have T1 := Lib.hid (any_take (p := nl) zs k hkz)
      have T2 := Lib.hid (any_take (p := long) zs k hkz)
      have hmem : zs.getD k ByteArray.empty ∈ zs := by simp [List.getD, List.getElem?_eq_getElem hkz]
      have hsz : (zs.getD k ByteArray.empty).size ≤ 9223372036854775807 := by have := HZ.out _ hmem; unfold maxLen at this; omega
      have HM := Lib.hid hmem
      clear hc1 h1 hkz hmem
      generalize hxk : zs.getD k ByteArray.empty = x at g1 T1 T2 hsz HM
      clear hxk
      cases hb : nl x
      · have HB := Lib.hid hb
        have N2 : Hid ((zs.take (k + 1)).any nl = false) := Lib.hid (by rw [T1.out, HN.out, HB.out]; rfl)
        clear hb
        cases b
        · have L2 : Hid (decide (1000 < (x.size : Int)) = (decide (2000 < n) || (zs.take (k + 1)).any long)) := Lib.hid (by
            have h2 := HE.out
            rw [T2.out, ← Bool.or_assoc, ← h2, Bool.false_or]
            unfold long
            rw [decide_eq_decide]; omega)
          go_wp2_with (go_at_call 31; refine (whole31 x _ hsz).mono ?_; rw [HB.out]; rintro e w' ⟨rfl, rfl⟩)
          go_roundg (n - (k + 1))
          case measure => omega
          case rel => exact ⟨k + 1, _, by omega, by omega, by go_num, rfl, rfl, L2.out, N2.out⟩
        · have L2 : Hid (true = (decide (2000 < n) || (zs.take (k + 1)).any long)) := Lib.hid (by
            have h2 := HE.out
            rw [T2.out, ← Bool.or_assoc, ← h2, Bool.true_or])
          go_wp2_with (go_at_call 31; refine (whole31 x _ hsz).mono ?_; rw [HB.out]; rintro e w' ⟨rfl, rfl⟩)
          go_roundg (n - (k + 1))
          case measure => omega
          case rel => exact ⟨k + 1, _, by omega, by omega, by go_num, rfl, rfl, L2.out, N2.out⟩
      · have HB := Lib.hid hb
        have HA : Hid (zs.any nl = true) := Lib.hid (List.any_eq_true.2 ⟨x, HM.out, hb⟩)
        clear hb
        go_wp2_with (go_at_call 31; refine (whole31 x _ hsz).mono ?_; rw [HB.out]; rintro e w' ⟨rfl, rfl⟩)
        go_ret
        refine ⟨ret_int ?_, rfl⟩
        unfold chk; rw [HA.out, if_pos rfl]
    · have hkn : k = n := by omega
      subst hkn
      clear h1
      have HA : Hid (zs.any nl = false ∧ b = (decide (2000 < zs.length) || zs.any long)) := Lib.hid (by
        have h2 := HN.out; have h3 := HE.out
        rw [H1.out, List.take_length] at h2 h3
        exact ⟨h2, h3⟩)
      cases b
      all_goals
        go_wp2
        go_ret
        refine ⟨ret_int ?_, rfl⟩
        have h3 := HA.out.2
        unfold chk
        rw [HA.out.1, if_neg (by simp)]
      · rw [if_neg]
        rintro (h | h)
        · simp [h] at h3
        · simp [h] at h3
      · rw [if_pos]
        simpa using h3
end Go.Proofs.Ytgiffkpneloghaa
