/- Templates: the first piece. -/
import Derived.Test.YtibflbepnlemmaaTplFns
namespace Go.Proofs.Ytibflbepnlemmaa.tpl
open Go.RowKit Go.Lib
set_option linter.unusedVariables false
set_option linter.unusedSimpArgs false
set_option linter.unnecessarySimpa false
set_option linter.unusedSectionVars false

def FstSays : Option (Pc × List UInt8) → Ending → Prop
  | none, e => e = .returned (.tuple #[.nilIface, .string ⟨#[]⟩, .bool false])
  | some (p, r), e => e = .returned (.tuple #[pcV p, .string (B r), .bool true])
theorem fst_plain (a : UInt8) (r : List UInt8) (h1 : a ≠ 38) (h2 : a ≠ 92) : fst1 (a :: r) = some (.txt ((a :: r).take (pl (a :: r))), (a :: r).drop (pl (a :: r))) := by
  cases r with
  | nil => simp [fst1, h1, h2, pl, spec]
  | cons b r => simp [fst1, h1, h2]
theorem fst_amp (r : List UInt8) : fst1 (38 :: r) = some (.grp 0, r) := by cases r <;> simp [fst1]

set_option maxHeartbeats 1000000 in
set_option maxRecDepth 100000 in
theorem first_is (a : UInt8) (r : List UInt8) (w : World) (hl : (a :: r).length ≤ 1000000) :
    Calls Try.prog 16 #[.string (B (a :: r))] w fun e w' => FstSays (fst1 (a :: r)) e ∧ Below w.heap.size w w' := by
  have i0 := fun W => index_at (a :: r) 0 0 rfl (by simp) W
  have e0 : (a :: r).getD 0 0 = a := rfl
  rw [e0] at i0
  have s1 := fun W => slice_drop (a :: r) 1 1 rfl (by simp) W
  rw [show (a :: r).drop 1 = r from rfl] at s1
  clear e0
  by_cases h1 : a = 38
  · subst h1
    rw [fst_amp]
    simp only [FstSays, pcV]
    go_enter Try.func16, Try.ntmps16
    go_wp2
    go_quiet (fail)
    go_wp2
    go_ret3
    exact ⟨rfl, below_drewN (Below.refl _ _) _⟩
  · have q1 : ((a.toNat : Int) == 38) = false := beq_eq_false_iff_ne.2 fun h => h1 (UInt8.toNat_inj.1 (by show a.toNat = 38; omega))
    by_cases h2 : a = 92
    · subst h2
      match r with
      | [] =>
        simp only [fst1, FstSays]
        have hsz : (B [92]).size = 1 := rfl
        go_enter Try.func16, Try.ntmps16
        go_wp2
        go_ret3
        exact ⟨rfl, Below.refl _ _⟩
      | b :: r =>
        simp only [fst1, FstSays]
        obtain ⟨m, hm⟩ : ∃ m, r.length = m := ⟨_, rfl⟩
        have hsz : (B (92 :: b :: r)).size = m + 2 := by rw [B_size]; simp [hm]
        have C := fun W => escaped_is b W
        have s2 := fun W => slice_mid (92 :: b :: r) 1 2 1 2 rfl rfl (by omega) (by simp) W
        have s3 := fun W => slice_drop (92 :: b :: r) 2 2 rfl (by simp) W
        rw [show (List.take (2 - 1) (List.drop 1 (92 :: b :: r))) = [b] from rfl] at s2
        rw [show (92 :: b :: r).drop 2 = r from rfl] at s3
        have q3 : ((m : Int) + 2 == 1) = false := beq_eq_false_iff_ne.2 (by omega)
        have q4 : ¬ (m : Int) + 2 = 1 := by omega
        clear hm
        generalize hv : pcV (escP b) = v at C
        have HV := Lib.hid hv
        clear hv hl s1
        go_enter Try.func16, Try.ntmps16
        go_wp2
        go_quiet ((go_at_call 25; exact Calls.quiet_of_same (C _)))
        go_wp2
        go_ret3
        rw [HV.out]
        exact ⟨rfl, below_drewN (Below.refl _ _) _⟩
    · have q2 : ((a.toNat : Int) != 92) = true := by
        have : ¬ (a.toNat : Int) = 92 := fun h => h2 (UInt8.toNat_inj.1 (by show a.toNat = 92; omega))
        simpa using this
      rw [fst_plain a r h1 h2]
      simp only [FstSays, pcV]
      have C := Lib.hid (plain_is (a :: r) w hl)
      have s2 := fun W => slice_front (a :: r) (pl (a :: r)) (pl (a :: r) : Nat) rfl (pl_le _) W
      have s3 := fun W => slice_drop (a :: r) (pl (a :: r)) (pl (a :: r) : Nat) rfl (pl_le _) W
      generalize (a :: r).take (pl (a :: r)) = x at s2
      generalize (a :: r).drop (pl (a :: r)) = y at s3
      generalize pl (a :: r) = k at s2 s3 C
      clear s1 h1 h2
      generalize hgl : a :: r = l at *
      clear hgl
      go_enter Try.func16, Try.ntmps16
      go_wp2_with fail
      go_at_call 24
      refine C.out.mono ?_
      rintro e w2 ⟨rfl, hb2⟩
      have HB := Lib.hid hb2
      clear hb2
      go_wp2
      go_quiet (fail)
      go_wp2
      go_ret3
      exact ⟨rfl, below_drewN HB.out _⟩
end Go.Proofs.Ytibflbepnlemmaa.tpl
