/- Terminals: the document's blank: cells from one up to another one. -/
import Derived.Test.YteekihhngjbjgaaVttRefNum
import Derived.StillTailTactics
namespace Go.Proofs.Yteekihhngjbjgaa.vtt
open Go.RowKit Go.Lib Go.Proofs.Yteekihhngjbjgaa.grd
set_option linter.unusedVariables false
set_option linter.unusedSimpArgs false
set_option linter.unnecessarySimpa false
set_option linter.unusedSectionVars false

def pS (m F T : Nat) (i j : Nat) : Bool := decide (F ≤ i * m + j) && decide (i * m + j < T)
theorem place_of {m i j x : Nat} (hj : j < m) : i * m + j = x ↔ i = x / m ∧ j = x % m := by
  have hm : 0 < m := by omega
  constructor
  · rintro rfl
    rw [Nat.mul_comm, Nat.mul_add_div hm, Nat.div_eq_of_lt hj, Nat.mul_add_mod, Nat.mod_eq_of_lt hj]
    exact ⟨rfl, rfl⟩
  · rintro ⟨rfl, rfl⟩
    rw [Nat.mul_comm]; exact Nat.div_add_mod x m
theorem pS_step (s : Ts) (ok : Ok s) (F x : Nat) (hF : F ≤ x) : setAt (wipeIf (pS s.m F x) s.ls) (x / s.m) (x % s.m) 32 = wipeIf (pS s.m F (x + 1)) s.ls := by
  rw [wipeIf_set]
  refine wipeIf_ext fun i l j hl hj => ?_
  have hjm : j < s.m := by have := (ok.row l (List.mem_of_getElem? hl)).1; omega
  have hp := place_of (i := i) (x := x) hjm
  unfold pS
  rw [Bool.eq_iff_iff]
  simp only [Bool.or_eq_true, Bool.and_eq_true, decide_eq_true_eq]
  rw [← hp]
  omega
theorem pS_none (m F : Nat) (i j : Nat) : pS m F F i j = false := by
  unfold pS
  rw [Bool.eq_false_iff]
  simp only [ne_eq, Bool.and_eq_true, decide_eq_true_eq]
  omega
/-- Blocks of no bytes have not turned. -/
def K5 (w w' : World) : Prop := ∀ (g : Nat) (t : TypeId) (cs : Array Value), t ≠ 5 → At w g t cs → At w' g t cs
theorem K5.put {w : World} {lo rb N : Nat} {s : Ts} {hb c b d : Nat} {q : List UInt8} (H : Rv w lo rb N s (some ⟨hb, 0, none⟩) c q) (i j : Nat) (hi : i < s.n) (hj : j < s.m) (hc : w.cell? ⟨hb, i, none⟩ = some (.slice (some ⟨b, 0, none⟩) s.m d)) (v : Value) : K5 w (w.drew.setCell ⟨b, j, none⟩ v) := by
  obtain ⟨l, hl⟩ : ∃ l, s.ls[i]? = some l := ⟨_, List.getElem?_eq_getElem (by have := H.ok.len; omega)⟩
  have hlm := (H.ok.row l (List.mem_of_getElem? hl)).1
  obtain ⟨y, hy⟩ : ∃ y, l[j]? = some y := ⟨_, List.getElem?_eq_getElem (by omega)⟩
  obtain ⟨⟨cs, t1⟩, _⟩ := Own.types H.own hl hy hc
  intro g t cs' ht h
  exact (At.same (w' := w.drew) h rfl).far (p := ⟨b, j, none⟩) (At.ne_type h t1 ht) v
set_option maxHeartbeats 4000000 in
set_option maxRecDepth 100000 in
theorem blank_is (lo rb N : Nat) (s : Ts) (F T : Nat) (hFT : F ≤ T) (hT : T ≤ s.n * s.m) (w : World) (H : Rt w lo rb N s) :
    Calls Try.prog 49 #[.pointer (some ⟨rb, 0, none⟩), .int .i64 F, .int .i64 T] w fun e w' => e = .returned (.tuple #[]) ∧ Rent lo rb N { s with ls := wipeIf (pS s.m F T) s.ls } w w' ∧ K5 w w' := by
  obtain ⟨A, c, q, H⟩ := H
  obtain ⟨n, m, ls, r, k, esc, pm⟩ := s
  have OK := Lib.hid H.ok
  have HH := Lib.hid H
  have hz := H.ok.size
  dsimp only at hz hT
  have hT9 : T ≤ 8000 := Nat.le_trans hT (Nat.le_trans (Nat.mul_le_mul hz.2.1 hz.2.2.2) (by decide))
  have HT := Lib.hid hT
  clear H hT
  have ST : Hid (Rv w lo rb N ⟨n, m, wipeIf (pS m F F) ls, r, k, esc, pm⟩ A c q) := Lib.hid (by
    rw [wipeIf_no (fun i l j _ _ => pS_none m F i j)]; exact HH.out)
  go_enter Try.func49, Try.ntmps49
  go_wp2
  go_loopg [6] T (fun g s6 wr => ∃ x : Nat, F ≤ x ∧ x ≤ T ∧ T - x ≤ g ∧ s6 = .int .i64 x ∧ Hid (Rv wr lo rb N ⟨n, m, wipeIf (pS m F x) ls, r, k, esc, pm⟩ A c q) ∧ Hid (Below lo w wr) ∧ Hid (K5 w wr))
  case atStart => exact ⟨F, Nat.le_refl _, hFT, by omega, rfl, ST, Lib.hid (Below.refl _ _), Lib.hid (fun _ _ _ _ h => h)⟩
  case round =>
    obtain ⟨x, hFx, hxT, hg, rfl, HR, HB, HK⟩ := hrel
    clear ST
    by_cases hlt : x < T
    · obtain ⟨i, hi⟩ : ∃ i, i = x / m := ⟨_, rfl⟩
      obtain ⟨j, hj⟩ : ∃ j, j = x % m := ⟨_, rfl⟩
      have him : i < n := by rw [hi]; exact Nat.div_lt_of_lt_mul (by have := HT.out; rw [Nat.mul_comm]; omega)
      have hjm : j < m := by rw [hj]; exact Nat.mod_lt _ (by omega)
      have hd1 : (x : Int) / (m : Int) = (i : Int) := by rw [hi]; exact (Int.natCast_ediv x m).symm
      have hd2 : (x : Int) % (m : Int) = (j : Int) := by rw [hj]; exact (Int.natCast_emod x m).symm
      have ht1 : (x : Int).tdiv (m : Int) = (i : Int) := by rw [Int.tdiv_eq_ediv_of_nonneg (by omega)]; exact hd1
      have ht2 : (x : Int).tmod (m : Int) = (j : Int) := by rw [Int.tmod_eq_emod_of_nonneg (by omega)]; exact hd2
      have hm0 : ¬ (m : Int) = 0 := by omega
      have hm00 : ¬ m = 0 := by omega
      have hm0' : ((m : Int) == 0) = false := by simp; omega
      have hw1 : IntKind.i64.wrap (i : Int) = (i : Int) := by rw [IntKind.wrap_i64]; omega
      have hw2 : IntKind.i64.wrap (j : Int) = (j : Int) := by rw [IntKind.wrap_i64]; omega
      obtain ⟨hb, b, d, v, rfl, c1, c2, c3, c4, c5, c6, H2⟩ := Rv.put HR.out i j him hjm 32 rfl
      obtain ⟨a0, a1, a2, _⟩ := HR.out.seven
      dsimp only at a0 a1 a2 c1
      have NX : Hid (Rv (wr.drew.setCell ⟨b, j, none⟩ (.int .u8 32)) lo rb N ⟨n, m, wipeIf (pS m F (x + 1)) ls, r, k, esc, pm⟩ (some ⟨hb, 0, none⟩) c q) := Lib.hid (by
        have e := pS_step ⟨n, m, ls, r, k, esc, pm⟩ OK.out F x hFx
        dsimp only at e
        rw [← hi, ← hj] at e
        dsimp only at H2
        rw [e] at H2
        exact H2.same rfl)
      have NB : Hid (Below lo w (wr.drew.setCell ⟨b, j, none⟩ (.int .u8 32))) := Lib.hid ((below_drew HB.out).setCell (p := ⟨b, j, none⟩) c4 _)
      have NK : Hid (K5 w (wr.drew.setCell ⟨b, j, none⟩ (.int .u8 32))) := Lib.hid (fun g t cs ht h => K5.put HR.out i j him hjm c1 _ g t cs ht (HK.out g t cs ht h))
      clear hi hj H2 c5 c6 HK
      go_wp2_with fail
      go_still_tail 21, (by kernel_rfl)
      change wpList _ _ _ _ _ wr.drew
      go_wp2
      go_roundg (T - (x + 1))
      case measure => omega
      case rel => exact ⟨x + 1, by omega, by omega, by omega, by go_num, NX, NB, NK⟩
    · obtain rfl : x = T := by omega
      have FIN : Hid (Rent lo rb N ⟨n, m, wipeIf (pS m F x) ls, r, k, esc, pm⟩ w wr) := Lib.hid ⟨HR.out.rt, HB.out⟩
      clear HR HB
      go_wp2
      go_end0
      exact ⟨rfl, FIN.out, HK.out⟩
end Go.Proofs.Yteekihhngjbjgaa.vtt
