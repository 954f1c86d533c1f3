/- Splices: what comes of splices of lines, as plain lists and numbers; a splice's bytes. -/
import Derived.Test.YtdbeedhedjhamaaPceMuch
import Derived.Test.YtdbeedhedjhamaaNumPure
namespace Go.Proofs.Ytdbeedhedjhamaa.sps
open Go.RowKit Go.Lib pce
set_option linter.unusedVariables false
set_option linter.unusedSimpArgs false
set_option linter.unnecessarySimpa false
set_option linter.unusedSectionVars false

/-- What stands against a splice, as a number. -/
def chkS (a d : Int) (ins : List ByteArray) : Int := if a < 0 ∨ d < 0 then 2 else chk ins
/-- What stands against a splice of so many lines. -/
def stpE (n : Nat) (a d : Int) (ins : List ByteArray) : Int :=
  if chkS a d ins ≠ 0 then chkS a d ins else if (n : Int) - a < d then 2 else if 2000 < (n : Int) - d + ins.length then 3 else 0
def stp (L : List ByteArray) (t : Ct) : Int := stpE L.length t.a t.d t.ins
def nxt (L : List ByteArray) (t : Ct) : List ByteArray := pce.spl L t.a.toNat t.d.toNat t.ins
/-- What stands against splices, one behind the other; what comes of them. -/
def runE : List ByteArray → List Ct → Int
  | _, [] => 0
  | L, t :: r => if stp L t ≠ 0 then stp L t else runE (nxt L t) r
def runL : List ByteArray → List Ct → List ByteArray
  | L, [] => L
  | L, t :: r => runL (nxt L t) r
/-- The lines that go. -/
def gone (L : List ByteArray) (a d : Nat) : List ByteArray := (L.take (a + d)).drop a
def appE (L : List ByteArray) (t : Ct) : Int := if chk L ≠ 0 then chk L else stp L t
def allE (L : List ByteArray) (ts : List Ct) : Int := if chk L ≠ 0 then chk L else runE L ts

theorem chkS_zero {a d : Int} {ins : List ByteArray} : chkS a d ins = 0 ↔ 0 ≤ a ∧ 0 ≤ d ∧ Fine ins := by
  unfold chkS
  split
  · rename_i h
    exact ⟨fun e => (by cases e), fun e => by omega⟩
  · rename_i h
    rw [fine_chk]
    exact ⟨fun e => ⟨by omega, by omega, e⟩, fun e => e.2.2⟩
theorem stpE_zero {n : Nat} {a d : Int} {ins : List ByteArray} : stpE n a d ins = 0 ↔ 0 ≤ a ∧ 0 ≤ d ∧ a + d ≤ n ∧ Fine ins ∧ (n : Int) - d + ins.length ≤ 2000 := by
  unfold stpE
  split
  · rename_i h
    exact ⟨fun e => absurd e h, fun e => absurd (chkS_zero.2 ⟨e.1, e.2.1, e.2.2.2.1⟩) h⟩
  · rename_i h
    have h0 : chkS a d ins = 0 := by
      rcases Int.decEq (chkS a d ins) 0 with h' | h'
      · exact absurd h' h
      · exact h'
    obtain ⟨h1, h2, h3⟩ := chkS_zero.1 h0
    split
    · exact ⟨fun e => (by cases e), fun e => by omega⟩
    · split
      · exact ⟨fun e => (by cases e), fun e => by omega⟩
      · exact ⟨fun _ => ⟨h1, h2, by omega, h3, by omega⟩, fun _ => rfl⟩
theorem stpE_pce {n : Nat} {a d : Int} {ins : List ByteArray} : stpE n a d ins = 0 ↔ splE n a d ins = 0 := by
  constructor
  · intro h
    obtain ⟨h1, h2, h3, h4, h5⟩ := stpE_zero.1 h
    unfold splE
    rw [if_neg (by omega), fine_chk.2 h4, if_neg (by simp), if_neg (by omega)]
  · intro h
    obtain ⟨h1, h2, h3, h4, h5⟩ := splE_zero h
    exact stpE_zero.2 ⟨h1, h2, h3, h4, h5⟩
theorem chkS_three (a d : Int) (ins : List ByteArray) : chkS a d ins = 0 ∨ chkS a d ins = 2 ∨ chkS a d ins = 3 := by
  unfold chkS
  split
  · exact .inr (.inl rfl)
  · exact chk_three _

section
variable {L M : List ByteArray} {t : Ct} {ts : List Ct}
theorem stp_zero : stp L t = 0 ↔ 0 ≤ t.a ∧ 0 ≤ t.d ∧ t.a + t.d ≤ L.length ∧ Fine t.ins ∧ (L.length : Int) - t.d + t.ins.length ≤ 2000 := stpE_zero
theorem stp_nat (h : stp L t = 0) : t.a = (t.a.toNat : Int) ∧ t.d = (t.d.toNat : Int) ∧ t.a.toNat + t.d.toNat ≤ L.length := by
  obtain ⟨h1, h2, h3, _⟩ := stp_zero.1 h; omega
theorem nxt_len (h : stp L t = 0) : (nxt L t).length = L.length - t.d.toNat + t.ins.length := by
  obtain ⟨h1, h2, h3, _⟩ := stp_zero.1 h
  exact spl_len (by omega)
theorem nxt_le (h : stp L t = 0) : (nxt L t).length ≤ 2000 := by
  obtain ⟨h1, h2, h3, _, h5⟩ := stp_zero.1 h
  rw [nxt_len h]; omega
theorem nxt_fine (hf : Fine L) (h : stp L t = 0) : Fine (nxt L t) := hf.spl (stp_zero.1 h).2.2.2.1 _ _ (nxt_le h)
theorem runE_nil : runE L [] = 0 := rfl
theorem runE_cons : runE L (t :: ts) = if stp L t ≠ 0 then stp L t else runE (nxt L t) ts := rfl
theorem runE_append : ∀ (L : List ByteArray) (ts us : List Ct), runE L (ts ++ us) = if runE L ts ≠ 0 then runE L ts else runE (runL L ts) us
  | L, [], us => by simp [runE, runL]
  | L, t :: r, us => by
    by_cases h : stp L t = 0
    · have e1 : runE L (t :: r) = runE (nxt L t) r := by rw [runE_cons, if_neg (by simp [h])]
      have e2 : runE L (t :: (r ++ us)) = runE (nxt L t) (r ++ us) := by rw [runE_cons, if_neg (by simp [h])]
      rw [List.cons_append, e2, e1, runE_append]; rfl
    · have e1 : runE L (t :: r) = stp L t := by rw [runE_cons, if_pos h]
      have e2 : runE L (t :: (r ++ us)) = stp L t := by rw [runE_cons, if_pos h]
      rw [List.cons_append, e2, e1, if_pos h]
theorem runL_append : ∀ (L : List ByteArray) (ts us : List Ct), runL L (ts ++ us) = runL (runL L ts) us
  | L, [], us => rfl
  | L, t :: r, us => by rw [List.cons_append]; show runL (nxt L t) (r ++ us) = _; rw [runL_append]; rfl
theorem run_fine : ∀ {ts : List Ct} {L : List ByteArray}, Fine L → runE L ts = 0 → Fine (runL L ts)
  | [], L, h, _ => h
  | t :: r, L, h, he => by
    rw [runE_cons] at he
    by_cases h0 : stp L t = 0
    · rw [if_neg (by simp [h0])] at he
      exact run_fine (ts := r) (L := nxt L t) (nxt_fine h h0) he
    · rw [if_pos h0] at he; exact absurd he h0

/-- Splices that may be done lead from lines to others. -/
def Leads (L : List ByteArray) (ts : List Ct) (M : List ByteArray) : Prop := runE L ts = 0 ∧ runL L ts = M
theorem Leads.nil (L : List ByteArray) : Leads L [] L := ⟨rfl, rfl⟩
theorem Leads.cons (h : stp L t = 0) (k : Leads (nxt L t) ts M) : Leads L (t :: ts) M := ⟨by rw [runE_cons, if_neg (by simp [h])]; exact k.1, k.2⟩
theorem Leads.head (h : Leads L (t :: ts) M) : stp L t = 0 ∧ Leads (nxt L t) ts M := by
  obtain ⟨h1, h2⟩ := h
  rw [runE_cons] at h1
  by_cases h0 : stp L t = 0
  · rw [if_neg (by simp [h0])] at h1
    exact ⟨h0, h1, h2⟩
  · rw [if_pos h0] at h1; exact absurd h1 h0
theorem gone_len (a d : Nat) (h : a + d ≤ L.length) : (gone L a d).length = d := by
  unfold gone; rw [List.length_drop, List.length_take]; omega
/-- The inverse may be done, and leads back. -/
theorem inv_back (hf : Fine L) (h : stp L t = 0) {u : Ct} (ha : u.a = t.a) (hd : u.d = t.ins.length) (hi : u.ins = gone L t.a.toNat t.d.toNat) : stp (nxt L t) u = 0 ∧ nxt (nxt L t) u = L := by
  obtain ⟨h1, h2, h3, h4, h5⟩ := stp_zero.1 h
  obtain ⟨n1, n2, n3⟩ := stp_nat h
  have hl := nxt_len h
  have hg : u.ins.length = t.d.toNat := by rw [hi]; exact gone_len _ _ n3
  refine ⟨stp_zero.2 ⟨by omega, by omega, by rw [hl]; omega, by rw [hi]; exact hf.stretch _ _, by rw [hl, hg, hd]; have := hf.1; omega⟩, ?_⟩
  show pce.spl (pce.spl L t.a.toNat t.d.toNat t.ins) u.a.toNat u.d.toNat u.ins = L
  rw [ha, hd, hi, Int.toNat_natCast]
  exact spl_back n3
theorem gone_fine (hf : Fine L) (a d : Nat) : Fine (gone L a d) := hf.stretch _ _
end

/-- A splice's bytes. -/
def enc (a d : Nat) (ts : List (List UInt8)) : List UInt8 := num.putN a ++ (num.putN d ++ num.putL ts)
theorem enc_inj {a d a' d' : Nat} {ts ts' : List (List UInt8)} {r r' : List UInt8} (h : enc a d ts ++ r = enc a' d' ts' ++ r') : a = a' ∧ d = d' ∧ ts = ts' ∧ r = r' := by
  unfold enc at h
  rw [List.append_assoc, List.append_assoc, List.append_assoc, List.append_assoc] at h
  obtain ⟨h1, h⟩ := num.putN_inj h
  obtain ⟨h2, h⟩ := num.putN_inj h
  obtain ⟨h3, h⟩ := num.putL_inj h
  exact ⟨h1, h2, h3, h⟩
end Go.Proofs.Ytdbeedhedjhamaa.sps
