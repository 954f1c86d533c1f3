/- strings.IndexAny, asked for two bytes below 128, of any text: bytes from 128 on, too. -/
import Derived.Test.YtibflbepnlemmaaShelf
import Derived.Test.YtibflbepnlemmaaWords
import Derived.Test.YtibflbepnlemmaaTplPure
import Derived.Laws.RangeString
import Derived.Lib.IndexAny
import Derived.Lib.IndexBytes
import Derived.Laws.Strings3
import Derived.BigQuiet
import Derived.WalkMore
import Derived.Deep.QuietTactic
namespace Go.Proofs.Ytibflbepnlemmaa.tpl
open Go.RowKit Go.Lib
set_option linter.unusedVariables false
set_option linter.unusedSimpArgs false
set_option linter.unnecessarySimpa false

theorem at_get (s : ByteArray) (pos : Nat) (h : pos < s.size) : s.get! pos = s[pos]'h := by
  simp [ByteArray.get!, getElem!_pos, h]
  rfl
theorem extract_end (s : ByteArray) (a : Nat) : s.extract a s.size = B (s.data.toList.drop a) := by rw [← Lib.extract_to_end, B_list]
theorem slice_drop (l : List UInt8) (k : Nat) (ki : Int) (hki : ki = k) (h : k ≤ l.length) (W : World) : (Instr.slice 9 (.string (B l)) (some (.int .i64 ki)) none none).run Try.prog W = .ok (.string (B (l.drop k))) W := by
  subst hki
  rw [run_slice_string_l (P := Try.prog) W 9 (B l) Try.underlying9 .i64 (k : Int) (by omega) (by rw [B_size]; omega), Int.toNat_natCast, extract_end, list_B]
theorem index_at (l : List UInt8) (k : Nat) (ki : Int) (hki : ki = k) (h : k < l.length) (W : World) : (Instr.index 9 (.string (B l)) (.int .i64 ki)).run Try.prog W = .ok (.int .u8 ((l.getD k 0).toNat : Int)) W := by
  subst hki
  have h1 : (0 : Int) ≤ (k : Int) := by omega
  have e : (B l)[k]? = some (l.getD k 0) := by
    have : (B l)[k]? = l.toArray[k]? := rfl
    rw [this, List.getElem?_toArray, List.getElem?_eq_getElem h]
    simp [List.getD, List.getElem?_eq_getElem h]
  simp [Instr.index, asIntOf, Sem.run_bind, run_underlying Try.underlying9, h1, e, Result.andThen]
theorem quiet_add_same {P : Program} {f : FuncId} {args : Array Value} {w : World} {a n : Nat} {v : Value}
    (h : Calls P f args (w.drewN (a + n)) fun e w' => e = .returned v ∧ w' = w.drewN (a + n)) :
    Calls P f args (w.drewN (a + n)) fun e w'' => e = .returned v ∧ ∃ m, w'' = w.drewN (a + m) :=
  h.mono fun _ _ ⟨he, hm⟩ => ⟨he, n, hm⟩
/-- What is read at a byte from 128 on: some of them, a number from 128 on. -/
theorem decode_high (s : ByteArray) (pos : Nat) (h : pos < s.size) (ha : 128 ≤ (s[pos]'h).toNat) :
    ∃ c k, Utf8.decode s pos = (c, k) ∧ 128 ≤ c ∧ c ≤ 1114111 ∧ Utf8.valid c = true ∧ 1 ≤ k ∧ pos + k ≤ s.size ∧ ∀ j, pos ≤ j → j < pos + k → ∀ h2 : j < s.size, 128 ≤ (s[j]'h2).toNat := by
  have e0 : s.get! pos = s[pos]'h := at_get s pos h
  have none1 : ∀ (P : Prop), (∀ c k, (Utf8.runeError, 1) = (c, k) → 128 ≤ c ∧ c ≤ 1114111 ∧ Utf8.valid c = true ∧ 1 ≤ k ∧ pos + k ≤ s.size ∧ ∀ j, pos ≤ j → j < pos + k → ∀ h2 : j < s.size, 128 ≤ (s[j]'h2).toNat) := by
    intro P c k e
    injection e with e1 e2
    subst e1; subst e2
    refine ⟨by decide, by decide, by decide, by omega, by omega, fun j h1 h2 h3 => ?_⟩
    obtain rfl : j = pos := by omega
    exact ha
  have fin : ∃ c k, Utf8.decode s pos = (c, k) := ⟨_, _, rfl⟩
  obtain ⟨c, k, e⟩ := fin
  refine ⟨c, k, e, ?_⟩
  unfold Utf8.decode at e
  simp only [Nat.add_zero, e0] at e
  split at e
  · omega
  · split at e
    · rename_i hc
      split at e
      · rename_i hge
        injection e with e1 e2
        subst e1; subst e2
        simp at hc
        have hb1 : pos + 1 < s.size := hc.2.1
        have g1 := at_get s (pos + 1) hb1
        rw [g1] at hc hge ⊢
        have l1 := (s[pos + 1]'hb1).toNat_lt
        refine ⟨hge, by omega, by simp [Utf8.valid]; omega, by omega, by omega, fun j h1 h2 h3 => ?_⟩
        rcases (by omega : j = pos ∨ j = pos + 1) with rfl | rfl
        · exact ha
        · have := hc.2.2; omega
      · exact none1 True _ _ e
    · split at e
      · rename_i hc
        split at e
        · rename_i hge
          injection e with e1 e2
          subst e1; subst e2
          simp at hc
          have hb2 : pos + 2 < s.size := hc.2.1
          have hb1 : pos + 1 < s.size := by omega
          have g1 := at_get s (pos + 1) hb1
          have g2 := at_get s (pos + 2) hb2
          rw [g1, g2] at hc hge ⊢
          simp at hge
          have l1 := (s[pos + 1]'hb1).toNat_lt
          have l2 := (s[pos + 2]'hb2).toNat_lt
          refine ⟨by omega, by omega, hge.2, by omega, by omega, fun j h1 h2 h3 => ?_⟩
          rcases (by omega : j = pos ∨ j = pos + 1 ∨ j = pos + 2) with rfl | rfl | rfl
          · exact ha
          · have := hc.1.2.2; omega
          · have := hc.2.2; omega
        · exact none1 True _ _ e
      · split at e
        · rename_i hc
          split at e
          · rename_i hge
            injection e with e1 e2
            subst e1; subst e2
            simp at hc
            have hb3 : pos + 3 < s.size := hc.2.1
            have hb2 : pos + 2 < s.size := by omega
            have hb1 : pos + 1 < s.size := by omega
            have g1 := at_get s (pos + 1) hb1
            have g2 := at_get s (pos + 2) hb2
            have g3 := at_get s (pos + 3) hb3
            rw [g1, g2, g3] at hc hge ⊢
            simp at hge
            have hv := hge.2
            have l1 := (s[pos + 1]'hb1).toNat_lt
            have l2 := (s[pos + 2]'hb2).toNat_lt
            have l3 := (s[pos + 3]'hb3).toNat_lt
            refine ⟨by omega, ?_, hge.2, by omega, by omega, fun j h1 h2 h3 => ?_⟩
            · simp [Utf8.valid] at hv; omega
            · rcases (by omega : j = pos ∨ j = pos + 1 ∨ j = pos + 2 ∨ j = pos + 3) with rfl | rfl | rfl | rfl
              · exact ha
              · have := hc.1.1.2.2; omega
              · have := hc.1.2.2; omega
              · have := hc.2.2; omega
          · exact none1 True _ _ e
        · exact none1 True _ _ e

section
variable {P : Program}
theorem run_next_any (w : World) (s : ByteArray) (pos : Nat) (ty : TypeId) (h : pos < s.size) (c k : Nat) (hd : Utf8.decode s pos = (c, k)) :
    (Instr.next (.pointer (some ⟨w.heap.size, 0, none⟩)) true ty).run P (w.iter s pos) =
      .ok (.tuple #[.bool true, .int .i64 pos, .int .i32 c]) (w.iter s (pos + k)) := by
  simp only [Instr.next, getObj, setObj, Sem.run_bind, Sem.run, World.iter_heap, Result.andThen, h, if_true, hd, World.iter_set]
  simp [goInt, Sem.run, World.iter_heap, World.iter_set]
end
def adv (W : World) (b : Nat) (s : ByteArray) (p : Nat) : World := { W with heap := W.heap.setIfInBounds b (.stringIter s p) }
theorem adv_at {W : World} {b : Nat} {s : ByteArray} {o : Obj} {p : Nat} (h : W.heap[b]? = some o) : (adv W b s p).heap[b]? = some (.stringIter s p) := by
  have hb := (Array.getElem?_eq_some_iff.1 h).1
  simp [adv, hb]
theorem adv_below {w W : World} {b n : Nat} {s : ByteArray} {p : Nat} (h : Below n w W) (hn : n ≤ b) : Below n w (adv W b s p) :=
  ⟨h.os, h.tape, h.output, by have := h.size; simpa [adv] using this, fun k hk => by
    have := h.block k hk
    simp only [adv]
    rw [Array.getElem?_setIfInBounds_ne (by omega)]
    exact this⟩
section
variable {P : Program}
theorem run_next_at (W : World) (b : Nat) (s : ByteArray) (pos : Nat) (hW : W.heap[b]? = some (.stringIter s pos)) (ty : TypeId) (h : pos < s.size) (c k : Nat) (hd : Utf8.decode s pos = (c, k)) :
    (Instr.next (.pointer (some ⟨b, 0, none⟩)) true ty).run P W = .ok (.tuple #[.bool true, .int .i64 pos, .int .i32 c]) (adv W b s (pos + k)) := by
  simp only [Instr.next, getObj, setObj, Sem.run_bind, Sem.run, hW, Result.andThen, h, if_true, hd]
  simp [goInt, Sem.run, hW, adv]
theorem run_next_out (W : World) (b : Nat) (s : ByteArray) (pos : Nat) (hW : W.heap[b]? = some (.stringIter s pos)) (ty : TypeId) (h : ¬ pos < s.size) :
    (Instr.next (.pointer (some ⟨b, 0, none⟩)) true ty).run P W = .ok (.tuple #[.bool false]) W := by
  simp [Instr.next, getObj, Sem.run, hW, h]
end
theorem encode_high (c : Nat) (h : 128 ≤ c) (hv : Utf8.valid c = true) : (∃ a y : UInt8, Utf8.encode c = ⟨#[a, y]⟩ ∧ 128 ≤ y.toNat) ∨ ∃ n, (Utf8.encode c).size = n + 3 ∧ n ≤ 1 := by
  unfold Utf8.encode
  simp only [hv, if_true, Int.toNat_natCast]
  rw [if_neg (by omega)]
  split
  · exact .inl ⟨_, _, rfl, by
      show 128 ≤ (UInt8.ofNat (128 + c % 64)).toNat
      rw [UInt8.toNat_ofNat']
      omega⟩
  · split
    · exact .inr ⟨0, rfl, by omega⟩
    · exact .inr ⟨1, rfl, by omega⟩
theorem run_str (c : Nat) (W : World) : (convert 21 9 (.int .i32 (c : Int))).run Try.prog W = .ok (.string (Utf8.encode c)) W := by
  simp [go_sem]

set_option maxHeartbeats 4000000 in
set_option maxRecDepth 100000 in
theorem rune_no (c : Nat) (h : 128 ≤ c) (hc : c ≤ 1114111) (hv : Utf8.valid c = true) (w : World) :
    Calls Try.prog 30 #[.string ⟨#[38, 92]⟩, .int .i32 (c : Int)] w fun e w' => e = .returned (.int .i64 (-1)) ∧ Below w.heap.size w w' := by
  have qv : Lib.validRune (c : Int) = true := by
    simp [Utf8.valid] at hv
    simp [Lib.validRune]
    omega
  have hs := run_str c
  have q0 : decide ((0 : Int) ≤ (c : Int)) = true := decide_eq_true (by omega)
  have q1 : decide ((c : Int) < 128) = false := decide_eq_false (by omega)
  have CV := fun W => Try.utf8_ValidRune (c : Int) W
  rw [qv] at CV
  by_cases hE : c = 65533
  · subst hE
    clear hv qv hs CV q0 q1
    go_enter Try.func30, Try.ntmps30
    go_wp2
    go_loopg [5, 6] 2 (fun g _ _ wx => ∃ i : Nat, i + g = 2 ∧ wx = w.iter ⟨#[38, 92]⟩ i)
    case atStart => exact ⟨0, rfl, rfl⟩
    case round =>
      obtain ⟨i, hig, rfl⟩ := hrel
      cases gk with
      | zero =>
        obtain rfl : i = 2 := by omega
        have hnx := run_next_end (P := Try.prog) w ⟨#[38, 92]⟩ 2
        go_wp2
        go_ret
        exact ⟨rfl, (Below.refl _ _).alloc (Nat.le_refl _) _⟩
      | succ g =>
        have hi : i < 2 := by omega
        obtain ⟨x, hx, hx1⟩ : ∃ x : UInt8, ((⟨#[38, 92]⟩ : ByteArray)[i]'hi) = x ∧ x.toNat < 128 := by
          rcases (by omega : i = 0 ∨ i = 1) with rfl | rfl
          · exact ⟨38, rfl, by decide⟩
          · exact ⟨92, rfl, by decide⟩
        have hnx := fun ty => run_next_ascii (P := Try.prog) w ⟨#[38, 92]⟩ i ty hi (by rw [hx]; exact hx1)
        rw [hx] at hnx
        clear hx
        have q5 : ((x.toNat : Int) == 65533) = false := beq_eq_false_iff_ne.2 (by omega)
        have q6 : ¬ (x.toNat : Int) = 65533 := by omega
        go_wp2
        go_roundg g
        case measure => omega
        case rel => exact ⟨i + 1, by omega, rfl⟩
  · have q2 : ((c : Int) == 65533) = false := beq_eq_false_iff_ne.2 (by omega)
    have q3 : ¬ (c : Int) = 65533 := by omega
    go_enter Try.func30, Try.ntmps30
    go_wp2_with (go_at_call 35; refine (CV _).mono ?_; rintro e w' ⟨rfl, hw'⟩; have hw := hw'.symm; subst hw)
    rcases encode_high c h hv with ⟨a, y, he, hy⟩ | ⟨n, he, hn⟩
    · rw [he] at hs
      have CI := fun W => Try.strings_IndexByte ⟨#[]⟩ (y.toNat : Int) W
      go_step3
      go_wp2
      go_loopg [9, 10, 11, 12] 1 (fun g s9 _ _ _ wx => s9 = .int .i64 1 ∧ wx = w)
      case atStart => exact ⟨rfl, rfl⟩
      case round =>
        obtain ⟨rfl, rfl⟩ := hrel
        have q7 : ((92 : Int) != (y.toNat : Int)) = true := by simp; omega
        have q8 : ¬ (92 : Int) = (y.toNat : Int) := by omega
        clear he hs h hc hv qv q0 q1 CV hE q2 q3
        have i1 : ∀ W, (Instr.index 9 (.string ⟨#[38, 92]⟩) (.int .i64 1)).run Try.prog W = .ok (.int .u8 92) W := fun W => index_at [38, 92] 1 1 rfl (by decide) W
        have i2 : ∀ W, (Instr.index 9 (.string ⟨#[a, y]⟩) (.int .i64 1)).run Try.prog W = .ok (.int .u8 (y.toNat : Int)) W := fun W => index_at [a, y] 1 1 rfl (by simp) W
        have i3 : ∀ W, (Instr.slice 9 (.string ⟨#[38, 92]⟩) (some (.int .i64 2)) none none).run Try.prog W = .ok (.string ⟨#[]⟩) W := fun W => slice_drop [38, 92] 2 2 rfl (by decide) W
        have i4 : IntKind.i64.wrap (1 + 1) = 2 := by decide
        go_wp2
        go_step3
        go_wp2
        go_quiet (fail)
        go_wp2
        go_quiet ((go_at_call 34; exact quiet_add_same (CI _)))
        go_wp2
        simp only [Exit.noGoto_ret, Exit.inBlock, Exit.then]
        go_ret
        exact ⟨rfl, below_drewN (Below.refl _ _) _⟩
    · generalize hrs : Utf8.encode (c : Int) = rs at hs he
      clear hrs
      go_step3
      go_wp2
      go_loopg [9, 10, 11, 12] 1 (fun g s9 _ _ _ wx => s9 = .int .i64 (n + 2) ∧ wx = w)
      case atStart => exact ⟨by go_num, rfl⟩
      case round =>
        obtain ⟨rfl, rfl⟩ := hrel
        have q9 : ¬ ((n : Int) + 2 < 2) := by omega
        have q10 : decide ((n : Int) + 2 < 2) = false := decide_eq_false q9
        clear he hs hn
        go_wp2
        go_ret
        exact ⟨rfl, Below.refl _ _⟩
/-- Bytes 38 and 92 are the two that are asked for. -/
theorem spec_contains (a : UInt8) : ([38, 92] : List UInt8).contains a = spec a := by
  unfold spec
  rw [Bool.eq_iff_iff, List.contains_iff_mem]
  simp
theorem idx_pl : ∀ l : List UInt8, Lib.indexAny l [38, 92] = if pl l = l.length then -1 else (pl l : Int) := by
  intro l
  have hno : ∀ (l : List UInt8), Lib.NoAny l [38, 92] (pl l) := by
    intro l j b hj hb
    induction l generalizing j with
    | nil => simp at hb
    | cons a r ih =>
      rw [spec_contains]
      cases hs : spec a with
      | true => simp [pl, hs] at hj
      | false =>
        cases j with
        | zero => simp at hb; subst hb; exact hs
        | succ j =>
          have := ih j (by simp [pl, hs] at hj; omega) (by simpa using hb)
          rwa [spec_contains] at this
  have hhit : ∀ (l : List UInt8), pl l < l.length → ∃ x, l[pl l]? = some x ∧ spec x = true := by
    intro l
    induction l with
    | nil => intro h; simp at h
    | cons a r ih =>
      intro h
      cases hs : spec a with
      | true => exact ⟨a, by simp [pl, hs], hs⟩
      | false =>
        have e : pl (a :: r) = pl r + 1 := by simp [pl, hs]
        rw [e] at h ⊢
        obtain ⟨x, h1, h2⟩ := ih (by simp at h; omega)
        exact ⟨x, by simpa using h1, h2⟩
  by_cases h : pl l = l.length
  · rw [if_pos h]
    exact Lib.indexAny_none (by have := hno l; rwa [h] at this)
  · rw [if_neg h]
    have := pl_le l
    obtain ⟨x, h1, h2⟩ := hhit l (by omega)
    exact Lib.indexAny_hit (hno l) h1 (by rw [spec_contains]; exact h2)
theorem zer73 (w : World) : (zeroValue 73).run Try.prog w = .ok (.agg (Array.replicate 256 (.bool false))) w := by kernel_rfl
theorem two_ascii : ∀ (j : Nat) b, (⟨#[38, 92]⟩ : ByteArray).data.toList[j]? = some b → b.toNat < 128 := by
  intro j b h
  match j, h with
  | 0, h => simp at h; subst h; decide
  | 1, h => simp at h; subst h; decide
  | j + 2, h => simp at h
theorem NoAny.far {s chars : List UInt8} {i k : Nat} (h : Lib.NoAny s chars i) (hk : ∀ j, i ≤ j → j < i + k → ∀ b, s[j]? = some b → chars.contains b = false) : Lib.NoAny s chars (i + k) := fun j b hj hb => by
  by_cases h1 : j < i
  · exact h j b h1 hb
  · exact hk j (by omega) hj b hb
theorem high_no {b : UInt8} (h : 128 ≤ b.toNat) : ([38, 92] : List UInt8).contains b = false := by
  rw [spec_contains]
  cases hs : spec b with
  | false => rfl
  | true =>
    rcases (by simpa [spec] using hs : b = 38 ∨ b = 92) with rfl | rfl
    · exact absurd h (by decide)
    · exact absurd h (by decide)

set_option maxHeartbeats 8000000 in
set_option maxRecDepth 100000 in
theorem any_is (s : ByteArray) (w : World) (hl : s.size ≤ 1000000000) :
    Calls Try.prog 28 #[.string s, .string ⟨#[38, 92]⟩] w fun e w' => e = .returned (.int .i64 (Lib.indexAny s.data.toList [38, 92])) ∧ Below w.heap.size w w' := by
  by_cases h8 : 8 < s.size
  · refine (Try.strings_IndexAny_long zer73 s ⟨#[38, 92]⟩ w (by decide) h8 (by omega) (by decide) two_ascii).mono ?_
    rintro e w' ⟨rfl, rfl⟩
    exact ⟨rfl, ((Below.refl _ _).alloc (Nat.le_refl _) _).alloc (by simp) _⟩
  · have h8z : decide ((8 : Int) < (s.size : Int)) = false := decide_eq_false (by omega)
    have CU := fun W => Try.strings_shouldUseASCIISet (s.size : Int) W
    rw [h8z] at CU
    go_enter Try.func28, Try.ntmps28
    go_wp2_with (go_at_call 31; refine (CU _).mono ?_; rintro e w' ⟨rfl, hw⟩; rw [hw])
    subst hw
    go_loopg [9, 10] s.size (fun g _ _ wx => ∃ i : Nat, i ≤ s.size ∧ s.size - i ≤ g ∧ Hid (wx.heap[w'.heap.size]? = some (.stringIter s i) ∧ Below w'.heap.size w' wx ∧ Lib.NoAny s.data.toList [38, 92] i))
    case atStart => exact ⟨0, by omega, by omega, Lib.hid ⟨World.iter_heap _ _ _, (Below.refl _ _).alloc (Nat.le_refl _) _, Lib.NoAny.zero _ _⟩⟩
    case round =>
      obtain ⟨i, hi, hg, HI⟩ := hrel
      by_cases hlt : i < s.size
      · obtain ⟨x, hx⟩ : ∃ x : UInt8, s[i]'hlt = x := ⟨_, rfl⟩
        have Hx : Hid (s.data.toList[i]? = some x) := Lib.hid (by rw [← hx]; exact Lib.data_getElem? s i hlt)
        by_cases hasc : x.toNat < 128
        · have hnx := fun ty => run_next_at (P := Try.prog) wr w'.heap.size s i HI.out.1 ty hlt x.toNat 1 (by have := decode_ascii s i hlt (by rw [hx]; exact hasc); rw [this, hx])
          have HA := Lib.hid (And.intro (adv_at (s := s) (p := i + 1) HI.out.1) (adv_below (s := s) (p := i + 1) HI.out.2.1 (Nat.le_refl _)))
          generalize adv wr w'.heap.size s (i + 1) = wy at hnx HA
          have CR := Lib.hid (Try.strings_IndexRune_ascii ⟨#[38, 92]⟩ (x.toNat : Int) wy (by omega) (by omega))
          have hcon := Lib.contains_iff_indexByte (⟨#[38, 92]⟩ : ByteArray).data.toList x
          have hback : ((x.toNat : Int)).toNat.toUInt8 = x := by simp
          rw [hback] at CR
          generalize hz : Lib.indexByte (⟨#[38, 92]⟩ : ByteArray).data.toList x = z at CR hcon
          clear hz hx hback
          cases hin : ([38, 92] : List UInt8).contains x with
          | false =>
            have hge : ¬ (0 : Int) ≤ z := of_decide_eq_false (hcon.symm.trans hin)
            have HN := Lib.hid (HI.out.2.2.succ Hx.out hin)
            clear hcon hin
            go_wp2_with (go_at_call 30; refine CR.out.mono ?_; rintro e w2 ⟨rfl, hw2⟩; rw [hw2])
            go_roundg (s.size - (i + 1))
            case measure => omega
            case rel => exact ⟨i + 1, by omega, by omega, Lib.hid ⟨HA.out.1, HA.out.2, HN.out⟩⟩
          | true =>
            have hge : (0 : Int) ≤ z := of_decide_eq_true (hcon.symm.trans hin)
            have HN := Lib.hid (Lib.indexAny_hit HI.out.2.2 Hx.out hin)
            clear hcon hin
            go_wp2_with (go_at_call 30; refine CR.out.mono ?_; rintro e w2 ⟨rfl, hw2⟩; rw [hw2])
            go_ret
            exact ⟨by rw [HN.out]; rfl, HA.out.2⟩
        · obtain ⟨c, k, hd, hc1, hc2, hc3, hk1, hk2, hk3⟩ := decode_high s i hlt (by rw [hx]; omega)
          have hnx := fun ty => run_next_at (P := Try.prog) wr w'.heap.size s i HI.out.1 ty hlt c k hd
          have HA := Lib.hid (And.intro (adv_at (s := s) (p := i + k) HI.out.1) (adv_below (s := s) (p := i + k) HI.out.2.1 (Nat.le_refl _)))
          have HN : Hid (Lib.NoAny s.data.toList [38, 92] (i + k)) := Lib.hid (NoAny.far HI.out.2.2 fun j h1 h2 b hb => by
            have hj : j < s.size := by omega
            have := Lib.data_getElem? s j hj
            have hbb : s[j]'hj = b := Option.some.inj (this.symm.trans hb)
            rw [← hbb]
            exact high_no (hk3 j h1 h2 hj))
          generalize adv wr w'.heap.size s (i + k) = wy at hnx HA
          have CR := Lib.hid (rune_no c hc1 hc2 hc3 wy)
          clear hx hd hk3 hc3 hc1 hc2 hasc
          have HK := Lib.hid (And.intro hk1 hk2)
          clear hk1 hk2
          go_wp2_with fail
          go_at_call 30
          refine CR.out.mono ?_
          rintro e w2 ⟨rfl, hb2⟩
          have HB := Lib.hid hb2
          clear hb2 CR hnx
          go_wp2
          have hk1 := HK.out.1
          have hk2 := HK.out.2
          go_roundg (s.size - (i + k))
          case measure => omega
          case rel => exact ⟨i + k, by omega, by omega, Lib.hid ⟨(HB.out.block _ (Array.getElem?_eq_some_iff.1 HA.out.1).1).trans HA.out.1, HA.out.2.trans (HB.out.mono HA.out.2.size), HN.out⟩⟩
      · obtain rfl : i = s.size := by omega
        have hnx := fun ty => run_next_out (P := Try.prog) wr w'.heap.size s s.size HI.out.1 ty hlt
        go_wp2
        go_ret
        exact ⟨by rw [Lib.indexAny_none (by rw [← Lib.size_eq]; exact HI.out.2.2)]; rfl, HI.out.2.1⟩
end Go.Proofs.Ytibflbepnlemmaa.tpl
