/- Lists of texts: what is asked of them again and again, and the document's Join and Check (stage 1's texts, gathered). -/
import Derived.Test.YtakckmelojobkaaGreatDoorCheck
import Derived.Test.YtakckmelojobkaaGreatDoorJoin
import Derived.Test.YtakckmelojobkaaGreatDoorTwin
import Derived.Laws.AppendOwnNone
namespace Go.Proofs.YtakckmelojobkaaGreatDoor
open Go.RowKit Go.Shelf Go.Lib
set_option linter.unusedVariables false
set_option linter.unusedSimpArgs false

theorem same12_b (A1 A2 : Option Addr) (c d n m : Nat) (xs ys : List ByteArray) (w : World) (b : Bool) (hn : n = xs.length) (hm : m = ys.length) (hn1 : n ≤ 100000) (hm1 : m ≤ 100000) (hb : decide (xs = ys) = b) (h1 : SRd w w.heap.size A1 xs) (h2 : SRd w w.heap.size A2 ys) :
    Calls Tryz.prog 21 #[.slice A1 n c, .slice A2 m d] w fun e w' => e = .returned (.bool b) ∧ Below w.heap.size w w' := by
  subst hb
  refine (same12 A1 A2 c d w.heap.size n m xs ys _ hn hm (by omega) (by omega) h1 h2).mono ?_
  rintro e w' ⟨rfl, q, rfl⟩
  exact ⟨rfl, below_drewN (Below.refl _ w) _⟩

theorem SRd.of_row {w : World} {base : Nat} {A : Option Addr} {m c : Nat} {zs more : List ByteArray} (hm : m = (zs ++ more).length) (h : w.ownsRow base 9 1 (.slice A m c) m ((zs ++ more).map Value.string)) : SRd w w.heap.size A zs := by
  intro hn
  have hm0 : 0 < m := by rw [hm, List.length_append]; omega
  obtain ⟨g, cap, hv, _, hlt⟩ := h.form hm0
  have hA : A = some ⟨g, 0, none⟩ := by injection hv
  subst hA
  refine ⟨g, 0, rfl, hlt, fun j hj => ?_⟩
  have := h.cells (g := g) rfl j (.string (zs.getD j ByteArray.empty)) (by
    rw [List.map_append, List.getElem?_append_left (by simpa using hj), List.getElem?_map, List.getElem?_eq_getElem hj]
    simp [List.getD, List.getElem?_eq_getElem hj])
  rwa [Go.WideShapes.add_plain] at this

theorem size_list (s : ByteArray) : s.data.toList.length = s.size := by rw [Array.length_toList]; rfl

theorem SRd.cells {w : World} {n₀ : Nat} {ad : Addr} {zs : List ByteArray} (h : SRd w n₀ (some ad) zs) : ∀ j u, (zs.map Value.string)[j]? = some u → w.cell? (ad.add j) = some u := fun j u hu => by
  obtain ⟨hj, hu⟩ := List.getElem?_eq_some_iff.1 hu
  have hj' : j < zs.length := by simpa using hj
  obtain ⟨b, off, e, hb, hcell⟩ := h (by omega)
  injection e with e
  subst e
  have := hcell j hj'
  rw [Go.WideShapes.add_plain, this, ← hu]
  simp [List.getD, List.getElem?_eq_getElem hj']

/-- append(own, list...), the list nil or not. -/
theorem wpList_append_list {w : World} {ops : Array Oper} {rest : List Oper} {o : Oper} {a : Act} {Q : Exit → Act → World → Prop} (hgd : o.guard = none) (s x : Operand)
    (ho : o.op = .call { callee := .builtin .append, args := #[s, x], argTypes := #[22, 22] })
    (base : Nat) (v : Value) (n : Nat) (xs : List Value) (hs : a.eval s = v) (hown : w.ownsRow base 9 1 v n xs)
    (A : Option Addr) (m c n₀ : Nat) (zs : List ByteArray) (hx : a.eval x = .slice A m c) (hm : m = zs.length) (hA : A = none → c = 0) (hr : SRd w n₀ A zs)
    (h63 : n + m ≤ 1000000) (hbase : base ≤ w.heap.size)
    (h : ∀ v' w', w'.ownsRow base 9 1 v' (n + m) (xs ++ zs.map Value.string) → w.grownBy w' v.ownBlock → wpList Tryz.prog ops Q rest (a.put o.dst v') w') : wpList Tryz.prog ops Q (o :: rest) a w := by
  obtain ⟨i0, hi, hz0, hz1, hz2⟩ := info_parts info9
  have hml : (1000000 : Nat) ≤ maxLen := by unfold maxLen; omega
  rcases A with _ | ad
  · obtain rfl : c = 0 := hA rfl
    obtain rfl : m = 0 := by
      rcases Nat.eq_zero_or_pos m with h0 | h0
      · exact h0
      · obtain ⟨_, _, h, _⟩ := hr (by omega)
        cases h
    obtain rfl : zs = [] := List.eq_nil_of_length_eq_zero hm.symm
    exact wpList_append_own_none hgd s x 22 ho base 9 i0 1 Tryz.underlying22 hi v n xs hs hown hx (h v w (by simpa using hown) (World.grownBy.refl w _))
  · exact wpList_append_own w hgd s x 22 ho base 9 i0 (.string ⟨#[]⟩) 1 16 Tryz.underlying22 hi hz0 hz1 hz2 rfl (by decide) v n xs hs hown ad m c (zs.map Value.string) hx (by rw [List.length_map]; omega) hr.cells (one_strs _) (by omega) (by omega) hbase (fun v' w' h1 h2 _ => h v' w' h1 h2)

theorem own_form {w : World} {base n : Nat} {v : Value} {xs : List Value} (h : w.ownsRow base 9 1 v n xs) : ∃ A c, v = .slice A n c := by
  rcases h.2 with ⟨hv, h0⟩ | ⟨g, cap, _, hv, _⟩
  · exact ⟨none, 0, by rw [hv, h0]⟩
  · exact ⟨_, _, hv⟩

theorem own_nil {w : World} {base n c : Nat} {A : Option Addr} {xs : List Value} (h : w.ownsRow base 9 1 (.slice A n c) n xs) : A = none → c = 0 := by
  intro hA
  subst hA
  rcases h.2 with ⟨hv, h0⟩ | ⟨g, cap, _, hv, _⟩
  · injection hv
  · injection hv with h; cases h

theorem append_list (a b : ByteArray) : (a ++ b).data.toList = a.data.toList ++ b.data.toList := by simp

set_option maxHeartbeats 1000000 in
set_option maxRecDepth 100000 in
theorem whole31 (s : ByteArray) (w : World) (hs : s.size ≤ 9223372036854775807) :
    Calls Tryz.prog 40 #[.string s] w fun e w' => e = .returned (.bool (!nl s)) ∧ w = w' := by
  have SZ := Lib.hid (size_list s)
  go_enter Tryz.func40, Tryz.ntmps40
  go_wp2
  go_loopg [3] s.size (fun g s3 wr => ∃ k : Nat, k ≤ s.size ∧ s.size - k ≤ g ∧ s3 = .int .i64 k ∧ wr = w ∧ ∀ j, j < k → s.data.toList[j]? ≠ some 10)
  case atStart => exact ⟨0, Nat.zero_le _, by omega, rfl, rfl, fun j hj => absurd hj (by omega)⟩
  case round =>
    obtain ⟨k, hk, hg, rfl, rfl, hno⟩ := hrel
    have HN := Lib.hid hno
    clear hno
    by_cases hlt : k < s.size
    · have hget : s.data.toList[k]? = some s[k] := by rw [List.getElem?_eq_getElem (by rw [SZ.out]; exact hlt)]; rfl
      have HG := Lib.hid hget
      clear hget
      by_cases h10 : s[k] = 10
      · have hI : ((s[k].toNat : Int) == 10) = true := by rw [h10]; rfl
        have HR : Hid (nl s = true) := Lib.hid (by rw [nl_iff]; exact List.mem_of_getElem? (by rw [HG.out, h10]))
        clear h10
        go_wp2
        go_ret
        exact ⟨by rw [HR.out]; rfl, rfl⟩
      · have hI : ((s[k].toNat : Int) == 10) = false := by
          have : ¬ s[k].toNat = 10 := fun e => h10 (UInt8.toNat_inj.1 e)
          simpa using fun h => this (by omega)
        have HN2 : Hid (∀ j, j < k + 1 → s.data.toList[j]? ≠ some 10) := Lib.hid (fun j hj => by
          by_cases e : j = k
          · subst e; rw [HG.out]; exact fun e => h10 (Option.some.inj e)
          · exact HN.out j (by omega))
        clear h10
        go_wp2
        go_roundg (s.size - (k + 1))
        case measure => omega
        case rel => exact ⟨k + 1, by omega, by omega, by go_num, rfl, HN2.out⟩
    · have hks : k = s.size := by omega
      subst hks
      have HR : Hid (nl s = false) := Lib.hid (by
        rw [Bool.eq_false_iff]
        intro h
        rw [nl_iff] at h
        obtain ⟨j, hj⟩ := List.getElem?_of_mem h
        have hjl := (List.getElem?_eq_some_iff.1 hj).1
        exact HN.out j (by rw [← SZ.out]; exact hjl) hj)
      go_wp2
      go_ret
      exact ⟨by rw [HR.out]; rfl, rfl⟩

theorem any_take {p : ByteArray → Bool} (zs : List ByteArray) (k : Nat) (h : k < zs.length) : (zs.take (k + 1)).any p = ((zs.take k).any p || p (zs.getD k ByteArray.empty)) := by
  have e : zs.getD k ByteArray.empty = zs[k] := by simp [List.getD, List.getElem?_eq_getElem h]
  rw [e, List.take_succ_eq_append_getElem h, List.any_append]
  simp

set_option maxHeartbeats 2000000 in
set_option maxRecDepth 100000 in
theorem refCheck19 (A : Option Addr) (c n n₀ : Nat) (zs : List ByteArray) (w : World) (hn : n = zs.length) (hb1 : n ≤ 100000) (hz : ∀ z ∈ zs, z.size ≤ maxLen) (h1 : SRd w n₀ A zs) :
    Calls Tryz.prog 28 #[.slice A n c] w fun e w' => e = .returned (.int .i64 (chk zs)) ∧ w = w' := by
  have H1 := Lib.hid hn
  have HZ := Lib.hid hz
  clear hn hz
  go_enter Tryz.func28, Tryz.ntmps28
  go_wp2
  go_loopg [3, 4] n (fun g s3 s4 wr => ∃ (k : Nat) (b : Bool), k ≤ n ∧ n - k ≤ g ∧ s4 = .int .i64 k ∧ wr = w ∧ s3 = .bool b ∧ (b = (decide (2000 < n) || (zs.take k).any long)) ∧ (zs.take k).any nl = false)
  case atStart => exact ⟨0, _, Nat.zero_le _, by omega, rfl, rfl, rfl, by simp; omega, by simp⟩
  case round =>
    obtain ⟨k, b, hk, hg, rfl, rfl, rfl, heq, hno⟩ := hrel
    have HE := Lib.hid heq
    have HN := Lib.hid hno
    clear heq hno
    by_cases hlt : k < n
    · obtain ⟨p1, o1, rfl, _, hc1⟩ := h1 (by rw [← H1.out]; omega)
      have g1 : wr.cell? ⟨p1, o1 + k, none⟩ = some (.string (zs.getD k ByteArray.empty)) := hc1 k (by rw [← H1.out]; omega)
      have hkz : k < zs.length := by rw [← H1.out]; exact hlt
      have T1 := Lib.hid (any_take (p := nl) zs k hkz)
      have T2 := Lib.hid (any_take (p := long) zs k hkz)
      have hmem : zs.getD k ByteArray.empty ∈ zs := by simp [List.getD, List.getElem?_eq_getElem hkz]
      have hsz : (zs.getD k ByteArray.empty).size ≤ 9223372036854775807 := by have := HZ.out _ hmem; unfold maxLen at this; omega
      have HM := Lib.hid hmem
      clear hc1 h1 hkz hmem
      generalize hxk : zs.getD k ByteArray.empty = x at g1 T1 T2 hsz HM
      clear hxk
      cases hb : nl x
      · have HB := Lib.hid hb
        have N2 : Hid ((zs.take (k + 1)).any nl = false) := Lib.hid (by rw [T1.out, HN.out, HB.out]; rfl)
        clear hb
        cases b
        · have L2 : Hid (decide (1000 < (x.size : Int)) = (decide (2000 < n) || (zs.take (k + 1)).any long)) := Lib.hid (by
            have h2 := HE.out
            rw [T2.out, ← Bool.or_assoc, ← h2, Bool.false_or]
            unfold long
            rw [decide_eq_decide]; omega)
          go_wp2_with (go_at_call 40; refine (whole31 x _ hsz).mono ?_; rw [HB.out]; rintro e w' ⟨rfl, rfl⟩)
          go_roundg (n - (k + 1))
          case measure => omega
          case rel => exact ⟨k + 1, _, by omega, by omega, by go_num, rfl, rfl, L2.out, N2.out⟩
        · have L2 : Hid (true = (decide (2000 < n) || (zs.take (k + 1)).any long)) := Lib.hid (by
            have h2 := HE.out
            rw [T2.out, ← Bool.or_assoc, ← h2, Bool.true_or])
          go_wp2_with (go_at_call 40; refine (whole31 x _ hsz).mono ?_; rw [HB.out]; rintro e w' ⟨rfl, rfl⟩)
          go_roundg (n - (k + 1))
          case measure => omega
          case rel => exact ⟨k + 1, _, by omega, by omega, by go_num, rfl, rfl, L2.out, N2.out⟩
      · have HB := Lib.hid hb
        have HA : Hid (zs.any nl = true) := Lib.hid (List.any_eq_true.2 ⟨x, HM.out, hb⟩)
        clear hb
        go_wp2_with (go_at_call 40; refine (whole31 x _ hsz).mono ?_; rw [HB.out]; rintro e w' ⟨rfl, rfl⟩)
        go_ret
        refine ⟨ret_int ?_, rfl⟩
        unfold chk; rw [HA.out, if_pos rfl]
    · have hkn : k = n := by omega
      subst hkn
      clear h1
      have HA : Hid (zs.any nl = false ∧ b = (decide (2000 < zs.length) || zs.any long)) := Lib.hid (by
        have h2 := HN.out; have h3 := HE.out
        rw [H1.out, List.take_length] at h2 h3
        exact ⟨h2, h3⟩)
      cases b
      all_goals
        go_wp2
        go_ret
        refine ⟨ret_int ?_, rfl⟩
        have h3 := HA.out.2
        unfold chk
        rw [HA.out.1, if_neg (by simp)]
      · rw [if_neg]
        rintro (h | h)
        · simp [h] at h3
        · simp [h] at h3
      · rw [if_pos]
        simpa using h3

theorem own_below {w w' : World} {base n : Nat} {v : Value} {xs : List Value} (h : w.ownsRow base 9 1 v n xs) (hB : Below w.heap.size w w') : w'.ownsRow base 9 1 v n xs := by
  have hl := h.lt
  refine ⟨h.1, ?_⟩
  rcases h.2 with h0 | ⟨g, cap, cur, rfl, hb, hg, h1⟩
  · exact .inl h0
  · exact .inr ⟨g, cap, cur, rfl, hb, (hB.block g (hl g rfl).2).trans hg, h1⟩

end Go.Proofs.YtakckmelojobkaaGreatDoor
