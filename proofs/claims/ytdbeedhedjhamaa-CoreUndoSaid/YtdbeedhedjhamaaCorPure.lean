/- Core: a buffer that is edited, as plain lists and numbers. -/
import Derived.Test.YtdbeedhedjhamaaMrkPure
import Derived.Test.YtdbeedhedjhamaaSplPure
namespace Go.Proofs.Ytdbeedhedjhamaa.cor
open pce sps mrk
set_option linter.unusedVariables false
set_option linter.unusedSimpArgs false
set_option linter.unnecessarySimpa false
set_option linter.unusedSectionVars false

/-- What an undo brings back: lines, current line, marks. -/
structure M where
  L : List ByteArray
  c : Int
  f : Nat → Int
/-- Where the current line is behind a splice. -/
def curN (c : Int) (t : Ct) (k : Nat) : Int := if 0 < ln c t.a t.d t.ins.length then ln c t.a t.d t.ins.length else min (t.a + 1) k
def mSpl (m : M) (t : Ct) : M := ⟨nxt m.L t, curN m.c t (nxt m.L t).length, shf m.f t.a t.d t.ins.length⟩
/-- A buffer: as it stands; what an undo brings back; what stood ahead of the change that has begun, and its splices; was it changed? -/
structure S where
  m : M
  back : Option M
  begun : Option (M × List Ct)
  dirty : Bool
def sNew (L : List ByteArray) : S := ⟨⟨L, (L.length : Int), fun _ => 0⟩, none, none, false⟩
/-- Numbers that an int tells. -/
theorem cur_lo {c : Int} {t : Ct} {k : Nat} (h : 0 ≤ t.a) : 0 ≤ curN c t k := by
  unfold curN
  split
  · omega
  · omega
theorem ln_le {n a d : Int} {k : Nat} {N : Int} (h0 : 0 ≤ a) (hd : 0 ≤ d) (hn : n ≤ N) (ha : a + d ≤ N) : ln n a d k ≤ N - d + k := by
  unfold ln
  split
  · omega
  split
  · omega
  split
  · omega
  split
  · omega
  · omega
theorem cur_hi {c : Int} {t : Ct} {L : List ByteArray} (h : stp L t = 0) (hc : c ≤ L.length) : curN c t (nxt L t).length ≤ (nxt L t).length := by
  obtain ⟨h1, h2, h3, h4, h5⟩ := stp_zero.1 h
  have hl := nxt_len h
  have e : ((nxt L t).length : Int) = L.length - t.d + t.ins.length := by omega
  unfold curN
  split
  · have := @ln_le c t.a t.d t.ins.length L.length h1 h2 hc h3
    omega
  · omega
theorem leads_snoc {L M : List ByteArray} {ts : List Ct} {t : Ct} (h : Leads L ts M) (h2 : stp M t = 0) : Leads L (ts ++ [t]) (nxt M t) := by
  obtain ⟨h1, rfl⟩ := h
  refine ⟨?_, ?_⟩
  · rw [runE_append, if_neg (by simp [h1]), runE_cons, if_neg (by simp [h2])]; rfl
  · rw [runL_append]; rfl
/-- All lines in the place of all lines. -/
def over (n : Nat) (A : Option Addr) (c : Nat) (L : List ByteArray) : Ct := ⟨0, n, A, c, L⟩
theorem over_leads {L M : List ByteArray} {A : Option Addr} {c : Nat} (hL : L.length ≤ 2000) (hM : Fine M) : Leads L [over L.length A c M] M := by
  have hs : stp L (over L.length A c M) = 0 := stp_zero.2 ⟨Int.le_refl 0, by show (0 : Int) ≤ (L.length : Int); omega, by show (0 : Int) + (L.length : Int) ≤ L.length; omega, hM, by show (L.length : Int) - (L.length : Int) + M.length ≤ 2000; have := hM.1; omega⟩
  have hn : nxt L (over L.length A c M) = M := by
    show pce.spl L (0 : Int).toNat ((L.length : Int)).toNat M = M
    unfold pce.spl
    simp
  have := Leads.cons hs (Leads.nil (nxt L (over L.length A c M)))
  rw [hn] at this
  exact ⟨this.1, this.2.symm ▸ rfl⟩
end Go.Proofs.Ytdbeedhedjhamaa.cor
