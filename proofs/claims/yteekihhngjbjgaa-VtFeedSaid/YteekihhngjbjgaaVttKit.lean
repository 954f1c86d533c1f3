/- Terminals: what the laws ask of all: a terminal of a size by numbers, texts cut and summed, escapes as a whole. -/
import Derived.Test.YteekihhngjbjgaaVttDoes2
import Derived.Test.YteekihhngjbjgaaGrdPut
import Derived.Lib.Strings
namespace Go.Proofs.Yteekihhngjbjgaa.vtt
open Go.RowKit Go.Lib Go.Proofs.Yteekihhngjbjgaa.grd
set_option linter.unusedVariables false
set_option linter.unusedSimpArgs false
set_option linter.unnecessarySimpa false
set_option linter.unusedSectionVars false

theorem step_27 (s : Ts) (h : s.esc ≤ 2) : step s 27 = { s with esc := 1 } := by
  obtain ⟨n, m, ls, r, k, esc, p⟩ := s
  dsimp only at h
  unfold step
  by_cases h0 : esc = 0
  · rw [if_pos h0]; rfl
  · rw [if_neg h0]
    by_cases h1 : esc = 1
    · rw [if_pos h1]; subst h1; rfl
    · rw [if_neg h1]; rfl
theorem step_91 (s : Ts) : step { s with esc := 1 } 91 = { s with p := Pm.zero, esc := 2 } := rfl
theorem feed_pars (s : Ts) (p : Pm) (q : List UInt8) (hq : ∀ c ∈ q, 32 ≤ c.toNat ∧ c.toNat < 64) : feed { s with p := p, esc := 2 } q = { s with p := q.foldl take p, esc := 2 } := by
  induction q generalizing p with
  | nil => rfl
  | cons c q ih =>
    have hc := hq c (List.mem_cons_self ..)
    rw [feed_cons]
    have e : step { s with p := p, esc := 2 } c = { s with p := take p c, esc := 2 } := by
      unfold step
      rw [if_neg (show ¬ (2 : Nat) = 0 by omega), if_neg (show ¬ (2 : Nat) = 1 by omega)]
      unfold goOn
      rw [if_neg (by omega), if_pos hc]
    rw [e, ih _ (fun d hd => hq d (List.mem_cons_of_mem _ hd))]
    rfl
/-- An escape as a whole. -/
theorem feed_cmd (s : Ts) (h : s.esc ≤ 2) (q : List UInt8) (hq : ∀ c ∈ q, 32 ≤ c.toNat ∧ c.toNat < 64) (c : UInt8) (h27 : c.toNat ≠ 27) (hc : ¬ (32 ≤ c.toNat ∧ c.toNat < 64)) :
    feed s (27 :: 91 :: (q ++ [c])) = obey { s with p := digest q, esc := 0 } c := by
  rw [feed_cons, step_27 s h, feed_cons, step_91, feed_append, feed_pars s _ q hq, feed_cons, feed_nil]
  unfold step
  rw [if_neg (show ¬ (2 : Nat) = 0 by omega), if_neg (show ¬ (2 : Nat) = 1 by omega)]
  unfold goOn
  rw [if_neg h27, if_neg hc]
  rfl
/-- An escape that says nothing leaves all, and no escape. -/
theorem feed_calm (s : Ts) (h : s.esc ≤ 2) : feed s [27, 91, 109] = { s with p := Pm.zero, esc := 0 } :=
  feed_cmd s h [] (fun _ hc => by cases hc) 109 (by decide) (by decide)
def calm (s : Ts) : Ts := { s with p := Pm.zero, esc := 0 }
theorem feed_ahead (s : Ts) (h : Ok s) (l : List UInt8) : feed s (l ++ [27, 91, 109]) = calm (feed s l) := by
  rw [feed_append, feed_calm _ (h.feed l).esc]; rfl
theorem Ok.calm {s : Ts} (h : Ok s) : Ok (calm s) := ⟨h.size, h.len, h.row, h.cur, by simp [vtt.calm, Pm.zero], by simp [vtt.calm]⟩

/-! Texts. -/
theorem extract_all (s : ByteArray) (a b : Nat) : s.extract a b = B ((s.data.toList.drop a).take (b - a)) := by rw [← Lib.extract_data, B_list]
theorem slice_front (l : List UInt8) (k : Nat) (ki : Int) (hki : ki = k) (h : k ≤ l.length) (W : World) : (Instr.slice 9 (.string (B l)) none (some (.int .i64 ki)) none).run Try.prog W = .ok (.string (B (l.take k))) W := by
  subst hki
  rw [run_slice_string_h (P := Try.prog) W 9 (B l) Try.underlying9 .i64 (k : Int) (by omega) (by rw [B_size]; omega), Int.toNat_natCast, extract_all, list_B, List.drop_zero, Nat.sub_zero]
theorem slice_drop (l : List UInt8) (k : Nat) (ki : Int) (hki : ki = k) (h : k ≤ l.length) (W : World) : (Instr.slice 9 (.string (B l)) (some (.int .i64 ki)) none none).run Try.prog W = .ok (.string (B (l.drop k))) W := by
  subst hki
  rw [run_slice_string_l (P := Try.prog) W 9 (B l) Try.underlying9 .i64 (k : Int) (by omega) (by rw [B_size]; omega), Int.toNat_natCast, extract_all, list_B]
  congr 3
  rw [B_size, ← List.length_drop, List.take_length]
theorem add_B (o r : List UInt8) (h : o.length + r.length ≤ 4000000000) (W : World) : (binOp .add 9 (.string (B o)) (.string (B r))).run Try.prog W = .ok (.string (B (o ++ r))) W := by
  have h1 : ¬ (((B o).size + (B r).size : Nat) : Int) > IntKind.i64.max := by
    rw [B_size, B_size]
    have : IntKind.i64.max = 9223372036854775807 := by decide
    omega
  have h2 : ¬ IntKind.i64.max < ((B o).size : Int) + ((B r).size : Int) := by
    have : (((B o).size + (B r).size : Nat) : Int) = ((B o).size : Int) + ((B r).size : Int) := by omega
    omega
  have h3 : ((B o).size : Int) + ((B r).size : Int) ≤ 9223372036854775807 := by
    rw [B_size, B_size]
    omega
  have e : B o ++ B r = B (o ++ r) := by
    apply ByteArray.ext
    simp [ByteArray.data_append]
  rw [← e]
  simp [binOp, Op.stringOp, h2]
  exact h3
set_option maxRecDepth 100000 in
theorem made_is (x y : Nat) (hx : x < 256) (hy : y < 256) (w : World) : Calls Try.prog 18 #[.int .u8 x, .int .u8 y] w (IsNew (2 + x % 59) (8 + y % 125) w) := by
  have C := Lib.hid (vnew_yes (2 + x % 59) (8 + y % 125) (by omega) w)
  have e1 : (2 : Int) + (x : Int) % 59 = ((2 + x % 59 : Nat) : Int) := by omega
  have e2 : (8 : Int) + (y : Int) % 125 = ((8 + y % 125 : Nat) : Int) := by omega
  rw [← e1, ← e2] at C
  clear e1 e2
  go_enter Try.func18, Try.ntmps18
  go_wp2_with fail
  go_at_call 11
  refine C.out.mono ?_
  rintro e w' ⟨b, rfl, hV⟩
  have HV := Lib.hid hV
  clear hV C
  go_wp2
  go_ret
  exact ⟨b, rfl, HV.out⟩
end Go.Proofs.Yteekihhngjbjgaa.vtt
