/- Templates: what is done with one piece. -/
import Derived.Test.YtibflbepnlemmaaTplWords
import Derived.BigQuiet
import Derived.Deep.QuietTactic
namespace Go.Proofs.Ytibflbepnlemmaa.tpl
open Go.RowKit Go.Lib
set_option linter.unusedVariables false
set_option linter.unusedSimpArgs false
set_option linter.unnecessarySimpa false
set_option linter.unusedSectionVars false

theorem slice_front (l : List UInt8) (k : Nat) (ki : Int) (hki : ki = k) (h : k ≤ l.length) (W : World) : (Instr.slice 9 (.string (B l)) none (some (.int .i64 ki)) none).run Try.prog W = .ok (.string (B (l.take k))) W := by
  subst hki
  rw [run_slice_string_h (P := Try.prog) W 9 (B l) Try.underlying9 .i64 (k : Int) (by omega) (by rw [B_size]; omega), Int.toNat_natCast]
  congr 2
  apply ByteArray.ext
  simp [ByteArray.extract, ByteArray.copySlice]
theorem extract_B (s : ByteArray) (a b : Nat) : s.extract a b = B ((s.data.toList.drop a).take (b - a)) := by rw [← Lib.extract_data, B_list]
theorem slice_mid (l : List UInt8) (a b : Nat) (ai bi : Int) (ha : ai = a) (hb : bi = b) (h1 : a ≤ b) (h2 : b ≤ l.length) (W : World) : (Instr.slice 9 (.string (B l)) (some (.int .i64 ai)) (some (.int .i64 bi)) none).run Try.prog W = .ok (.string (B ((l.drop a).take (b - a)))) W := by
  subst ha hb
  rw [run_slice_string (P := Try.prog) W 9 (B l) .i64 .i64 (a : Int) (b : Int) Try.underlying9 (by omega) (by omega) (by rw [B_size]; omega), Int.toNat_natCast, Int.toNat_natCast, extract_B, list_B]
theorem grp_grp (v : Value) (xT : TypeId) (w : World) : (Instr.typeAssert (.iface 61 v) xT 61 true).run Try.prog w = .ok (.tuple #[v, .bool true]) w := by
  simp [Instr.typeAssert, Sem.run_bind, run_underlying Try.underlying61, Result.andThen]
theorem txt_grp (v : Value) (xT : TypeId) (w : World) : (Instr.typeAssert (.iface 62 v) xT 61 true).run Try.prog w = .ok (.tuple #[.int .i64 0, .bool false]) w := by
  have z : (zeroValue 61).run Try.prog w = .ok (.int .i64 0) w := by kernel_rfl
  simp [Instr.typeAssert, Sem.run_bind, run_underlying Try.underlying61, Result.andThen, z]
theorem txt_txt (v : Value) (xT : TypeId) (w : World) : (Instr.typeAssert (.iface 62 v) xT 62 true).run Try.prog w = .ok (.tuple #[v, .bool true]) w := by
  simp [Instr.typeAssert, Sem.run_bind, run_underlying Try.underlying62, Result.andThen]
theorem grp_txt (v : Value) (xT : TypeId) (w : World) : (Instr.typeAssert (.iface 61 v) xT 62 true).run Try.prog w = .ok (.tuple #[.string ⟨#[]⟩, .bool false]) w := by
  have z : (zeroValue 62).run Try.prog w = .ok (.string ⟨#[]⟩) w := by kernel_rfl
  simp [Instr.typeAssert, Sem.run_bind, run_underlying Try.underlying62, Result.andThen, z]

set_option maxHeartbeats 1000000 in
set_option maxRecDepth 100000 in
theorem pieces_nil (w : World) : Calls Try.prog 17 #[.pointer none] w fun e w' => e = .returned (.slice none 0 0) ∧ w' = w := by
  go_enter Try.func17, Try.ntmps17
  go_wp2
  go_ret
  exact ⟨rfl, rfl⟩
set_option maxHeartbeats 1000000 in
set_option maxRecDepth 100000 in
theorem pieces_is (w : World) (b : Nat) (A : Option Addr) (n c : Nat) (h : At w b 37 #[.slice A n c]) : Calls Try.prog 17 #[.pointer (some ⟨b, 0, none⟩)] w fun e w' => e = .returned (.slice A n c) ∧ w' = w := by
  have hc := h.cell 0
  have H := Lib.hid h
  clear h
  go_enter Try.func17, Try.ntmps17
  go_wp2
  go_ret
  exact ⟨rfl, rfl⟩
set_option maxHeartbeats 1000000 in
set_option maxRecDepth 100000 in
theorem number_is (p : Pc) (w : World) : Calls Try.prog 18 #[pcV p] w fun e w' => e = .returned (.int .i64 (moPc p : Nat)) ∧ w' = w := by
  cases p with
  | txt l =>
    unfold pcV moPc
    have q1 := @txt_grp
    have q2 := @grp_grp
    go_enter Try.func18, Try.ntmps18
    go_wp2
    go_ret
    exact ⟨rfl, rfl⟩
  | grp n =>
    unfold pcV moPc
    have q1 := @txt_grp
    have q2 := @grp_grp
    go_enter Try.func18, Try.ntmps18
    go_wp2
    go_ret
    exact ⟨rfl, rfl⟩
theorem leq_one (x a : UInt8) (w : World) : (binOp .leq 9 (.string ⟨#[x]⟩) (.string ⟨#[a]⟩)).run Try.prog w = .ok (.bool (decide (x.toNat ≤ a.toNat))) w := by
  have e1 : (⟨#[x]⟩ : ByteArray).toList = [x] := by rw [Lib.toList_data]
  have e2 : (⟨#[a]⟩ : ByteArray).toList = [a] := by rw [Lib.toList_data]
  have e3 : (decide (x < a) || (x == a)) = decide (x.toNat ≤ a.toNat) := by
    rw [Bool.eq_iff_iff]
    simp only [Bool.or_eq_true, decide_eq_true_eq, beq_iff_eq, ← UInt8.toNat_inj, UInt8.lt_iff_toNat_lt]
    omega
  simp [binOp, Op.stringOp, e1, e2, Op.bytesLess, e3]

set_option maxHeartbeats 1000000 in
set_option maxRecDepth 100000 in
theorem escaped_is (a : UInt8) (w : World) : Calls Try.prog 25 #[.string ⟨#[a]⟩] w fun e w' => e = .returned (pcV (escP a)) ∧ w' = w := by
  have e1 : (⟨#[a]⟩ : ByteArray).toList = [a] := by rw [Lib.toList_data]
  have hsz : (⟨#[a]⟩ : ByteArray).size = 1 := rfl
  have i1 : ∀ W, (Instr.index 9 (.string ⟨#[a]⟩) (.int .i64 0)).run Try.prog W = .ok (.int .u8 (a.toNat : Int)) W := fun W => index_at [a] 0 0 rfl (by simp) W
  have l1 := fun W => leq_one 49 a W
  have l2 := fun W => leq_one a 57 W
  have n1 : (49 : UInt8).toNat = 49 := rfl
  have n2 : (57 : UInt8).toNat = 57 := rfl
  rw [n1] at l1
  rw [n2] at l2
  cases hd : digB a with
  | true =>
    have e : escP a = .grp (a.toNat - 48) := by simp [escP, hd]
    rw [e]
    unfold pcV
    have hq : 49 ≤ a.toNat ∧ a.toNat ≤ 57 := by simpa [digB] using hd
    have q1 : decide (49 ≤ a.toNat) = true := decide_eq_true hq.1
    have q2 : decide (a.toNat ≤ 57) = true := decide_eq_true hq.2
    rw [q1] at l1
    rw [q2] at l2
    go_enter Try.func25, Try.ntmps25
    go_wp2
    go_ret
    refine ⟨?_, rfl⟩
    show Ending.returned (.iface 61 (.int .i64 ((a.toNat : Int) - 48))) = .returned (.iface 61 (.int .i64 ((a.toNat - 48 : Nat) : Int)))
    rw [show ((a.toNat : Int) - 48) = ((a.toNat - 48 : Nat) : Int) by omega]
  | false =>
    have hq : ¬ (49 ≤ a.toNat ∧ a.toNat ≤ 57) := by
      unfold digB at hd
      simpa using hd
    have H : ∀ (b1 : Bool), decide (49 ≤ a.toNat) = b1 → (b1 = true → decide (a.toNat ≤ 57) = false) → Calls Try.prog 25 #[.string ⟨#[a]⟩] w fun e w' => e = .returned (pcV (escP a)) ∧ w' = w := by
      intro b1 h1 h2
      rw [h1] at l1
      have en : (⟨#[a]⟩ : ByteArray) = ⟨#[110]⟩ ∨ ¬ a = 110 := by
        by_cases h : a = 110
        · exact .inl (by rw [h])
        · exact .inr h
      have key : ∀ b3 : Bool, (a == 110) = b3 → Calls Try.prog 25 #[.string ⟨#[a]⟩] w fun e w' => e = .returned (if b3 then pcV (.txt [10]) else pcV (.txt [a])) ∧ w' = w := by
        intro b3 h3
        unfold pcV
        cases b1 with
        | true =>
          have q2 := h2 rfl
          rw [q2] at l2
          clear h1 h2 q2 hq hd e1 en
          cases b3 with
          | true =>
            go_enter Try.func25, Try.ntmps25
            go_wp2
            go_ret
            exact ⟨rfl, rfl⟩
          | false =>
            go_enter Try.func25, Try.ntmps25
            go_wp2
            go_ret
            exact ⟨rfl, rfl⟩
        | false =>
          clear h1 h2 l2 hq hd e1 en
          cases b3 with
          | true =>
            go_enter Try.func25, Try.ntmps25
            go_wp2
            go_ret
            exact ⟨rfl, rfl⟩
          | false =>
            go_enter Try.func25, Try.ntmps25
            go_wp2
            go_ret
            exact ⟨rfl, rfl⟩
      have hh := key _ rfl
      have e4 : (if (a == 110) then pcV (.txt [10]) else pcV (.txt [a])) = pcV (escP a) := by
        unfold escP
        rw [hd]
        by_cases h : a = 110
        · subst h; rfl
        · simp [h]
      rw [e4] at hh
      exact hh
    by_cases h1 : 49 ≤ a.toNat
    · exact H true (decide_eq_true h1) fun _ => decide_eq_false fun h => hq ⟨h1, h⟩
    · exact H false (decide_eq_false h1) fun h => by cases h
set_option maxHeartbeats 1000000 in
set_option maxRecDepth 100000 in
theorem plain_is (l : List UInt8) (w : World) (hl : l.length ≤ 1000000) : Calls Try.prog 24 #[.string (B l)] w fun e w' => e = .returned (.int .i64 (pl l : Nat)) ∧ Below w.heap.size w w' := by
  have C := Lib.hid (any_is (B l) w (by rw [B_size]; omega))
  rw [list_B, idx_pl] at C
  have hsz : (B l).size = l.length := B_size l
  by_cases h : pl l = l.length
  · rw [if_pos h] at C
    go_enter Try.func24, Try.ntmps24
    go_wp2_with (go_at_call 28; refine C.out.mono ?_; rintro e w' ⟨rfl, hb⟩)
    go_ret
    exact ⟨by rw [h]; rfl, hb⟩
  · rw [if_neg h] at C
    go_enter Try.func24, Try.ntmps24
    go_wp2_with (go_at_call 28; refine C.out.mono ?_; rintro e w' ⟨rfl, hb⟩)
    go_ret
    exact ⟨rfl, hb⟩
/-- What a pair says of a text. -/
def st2 (x y : Int) (s : List UInt8) : List UInt8 := if x < 0 ∨ y < x ∨ (s.length : Int) < y then [] else (s.drop x.toNat).take (y.toNat - x.toNat)
theorem stf_is (sp : Nat → Int) (s : List UInt8) (n : Nat) : stf sp s n = st2 (sp (2 * n)) (sp (2 * n + 1)) s := rfl
set_option maxHeartbeats 1000000 in
set_option maxRecDepth 100000 in
theorem stretch_is (s : List UInt8) (x y : Int) (w : World) (hl : s.length ≤ 1000000) : Calls Try.prog 27 #[.string (B s), .agg #[.int .i64 x, .int .i64 y]] w fun e w' => e = .returned (.string (B (st2 x y s))) ∧ Below w.heap.size w w' := by
  have hsz : (B s).size = s.length := B_size s
  obtain ⟨m, hm⟩ : ∃ m, s.length = m := ⟨_, rfl⟩
  have HM := Lib.hid hm
  have sm := slice_mid s
  unfold st2
  rw [hm] at hsz hl
  rw [hm]
  clear hm
  by_cases h1 : x < 0
  · rw [if_pos (.inl h1)]
    have q1 : decide (x < 0) = true := decide_eq_true h1
    clear sm
    go_enter Try.func27, Try.ntmps27
    go_wp2
    go_quiet (fail)
    go_wp2
    go_ret
    exact ⟨rfl, below_drewN ((Below.refl _ _).alloc (Nat.le_refl _) _) _⟩
  · have q1 : decide (x < 0) = false := decide_eq_false h1
    by_cases h2 : y < x
    · rw [if_pos (.inr (.inl h2))]
      have q2 : decide (y < x) = true := decide_eq_true h2
      clear sm
      go_enter Try.func27, Try.ntmps27
      go_wp2
      go_quiet (fail)
      go_wp2
      go_ret
      exact ⟨rfl, below_drewN ((Below.refl _ _).alloc (Nat.le_refl _) _) _⟩
    · have q2 : decide (y < x) = false := decide_eq_false h2
      by_cases h3 : (m : Int) < y
      · rw [if_pos (.inr (.inr h3))]
        have q3 : decide ((m : Int) < y) = true := decide_eq_true h3
        clear sm
        go_enter Try.func27, Try.ntmps27
        go_wp2
        go_quiet (fail)
        go_wp2
        go_ret
        exact ⟨rfl, below_drewN ((Below.refl _ _).alloc (Nat.le_refl _) _) _⟩
      · have q3 : decide ((m : Int) < y) = false := decide_eq_false h3
        rw [if_neg (by omega)]
        have sl := sm x.toNat y.toNat x y (by omega) (by omega) (by omega) (by rw [HM.out]; omega)
        clear sm
        generalize (s.drop x.toNat).take (y.toNat - x.toNat) = r at sl
        go_enter Try.func27, Try.ntmps27
        go_wp2
        go_quiet (fail)
        go_wp2
        go_ret
        exact ⟨rfl, below_drewN ((Below.refl _ _).alloc (Nat.le_refl _) _) _⟩
set_option maxHeartbeats 1000000 in
set_option maxRecDepth 100000 in
theorem expanded_is (p : Pc) (s : List UInt8) (f : Nat → Int) (w : World) (hp : PcOk p) (hl : s.length ≤ 1000000) : Calls Try.prog 20 #[pcV p, .string (B s), .agg (spA f)] w fun e w' => e = .returned (.string (B (exPc (stf f s) p))) ∧ Below w.heap.size w w' := by
  have hb := fun W => box23 W f
  cases p with
  | txt l =>
    unfold pcV exPc
    have q1 := @txt_txt
    go_enter Try.func20, Try.ntmps20
    go_wp2
    go_ret
    exact ⟨rfl, (Below.refl _ _).alloc (Nat.le_refl _) _⟩
  | grp n =>
    simp only [pcV, exPc]
    rw [stf_is]
    have hn : n < 10 := hp
    have q1 := @grp_txt
    have q2 := @grp_grp
    have ad := fun b W => addr23 b n (n : Int) rfl hn W
    have c1 := (sp_new w f).cell (2 * n) (by omega)
    have c2 := (sp_new w f).cell (2 * n + 1) (by omega)
    have C := Lib.hid (stretch_is s (f (2 * n)) (f (2 * n + 1)) (w.alloc (.cells (spA f) 23)) hl)
    generalize f (2 * n) = x at c1 C
    generalize f (2 * n + 1) = y at c2 C
    go_enter Try.func20, Try.ntmps20
    go_wp2_with fail
    go_at_call 27
    refine C.out.mono ?_
    rintro e w2 ⟨rfl, hb2⟩
    have HB := Lib.hid hb2
    clear hb2
    go_wp2
    go_ret
    exact ⟨rfl, ((Below.refl _ _).alloc (Nat.le_refl _) _).trans (HB.out.mono (by simp))⟩
end Go.Proofs.Ytibflbepnlemmaa.tpl
