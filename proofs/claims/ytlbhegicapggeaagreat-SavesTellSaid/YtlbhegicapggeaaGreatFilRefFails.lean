/- Files: the document's own system: whether a stroke fails. -/
import Derived.Test.YtlbhegicapggeaaGreatFilRefCrash
namespace Go.Proofs.YtlbhegicapggeaaGreat.fil
open Go.RowKit Go.Lib Go.Maps Go.WideMaps
set_option linter.unusedVariables false
set_option linter.unusedSimpArgs false
set_option linter.unnecessarySimpa false
set_option linter.unusedSectionVars false

/-- Whether a stroke fails, and what is left. -/
def failing (s : St) : Bool × St :=
  match s.due with
  | none => (false, s)
  | some (0, ks) => (true, crash ks s)
  | some (n + 1, ks) => (false, { s with due := some (n, ks) })
theorem stroke_early {s : St} (hon : s.off = false) (t : List Fl) : stroke s 0 true t = if (failing { s with files := t }).1 = true then (51, (failing { s with files := t }).2) else (0, (failing { s with files := t }).2) := by
  unfold stroke failing
  rw [if_neg (by rw [hon]; decide), if_pos rfl]
  rcases hd : s.due with _ | ⟨_ | n, ks⟩ <;> simp [hd, crash]
theorem stroke_late {s : St} (hon : s.off = false) (t : List Fl) : stroke s 0 false t = if (failing s).1 = true then (51, (failing s).2) else (0, { (failing s).2 with files := t }) := by
  unfold stroke failing
  rw [if_neg (by rw [hon]; decide), if_pos rfl]
  rcases hd : s.due with _ | ⟨_ | n, ks⟩ <;> simp [hd, crash]
theorem failing_files {s : St} (h : (failing s).1 = false) : (failing s).2.files = s.files := by
  revert h
  unfold failing
  rcases hd : s.due with _ | ⟨_ | n, ks⟩ <;> simp
theorem failing_cap (s : St) : (failing s).2.cap = s.cap := by
  unfold failing
  rcases hd : s.due with _ | ⟨_ | n, ks⟩ <;> simp [crash]

section
variable {q : Bool} {w w' : World} {rb : Nat} {s s' : St} {v kv : Value} {z : Int} {fl : Bool} {F F' : Nat → Prop}
theorem own_LRd {w : World} {base e n : Nat} {v : Value} {xs : List Value} (h : w.ownsRow base e 1 v n xs) : ∃ A c kb, v = .slice A n c ∧ n ≤ c ∧ c ≤ maxLen ∧ LRd w kb (kb + 1) A xs ∧ (∀ b, v.ownBlock = some b → b = kb) := by
  rcases h.2 with ⟨rfl, rfl⟩ | ⟨g, cap, cur, rfl, h1, h2, h3, h4, h5, h6⟩
  · refine ⟨none, 0, 0, rfl, Nat.le_refl _, Nat.zero_le _, fun h0 => ?_, fun b hb => by simp [Value.ownBlock] at hb⟩
    have := h.1; omega
  · refine ⟨_, cap, g, rfl, h3, h4, fun _ => ⟨g, 0, rfl, Nat.le_refl _, Nat.lt_succ_self _, fun j u hu => ?_⟩, fun b hb => by simpa [Value.ownBlock] using hb.symm⟩
    have := h.cells (g := g) rfl j u hu
    rwa [Go.WideShapes.add_plain] at this
set_option maxHeartbeats 1000000 in
theorem refFails_is (w : World) (hon : s.off = false) (h : RFz true w rb s v kv z fl F) :
    Calls Tryz.prog 62 #[.pointer (some ⟨rb, 0, none⟩)] w fun e w' => e = .returned (.bool (failing s).1) ∧ RWent F rb (failing s).2 w w' := by
  obtain ⟨c0, c1, c2, c3, c4, c5, c6⟩ := h.cells
  have f5 := h.frozen 5
  unfold failing
  rcases hd : s.due with _ | ⟨_ | n, ks⟩
  · have hfl : fl = false := by have := h.due rfl; rw [hd] at this; exact this
    subst hfl
    have HR := Lib.hid (RWent.refl (⟨v, kv, z, false, h⟩ : RIs w rb s F))
    clear h hd
    go_enter Tryz.func62, Tryz.ntmps62
    go_wp2
    go_ret
    exact ⟨rfl, HR.out⟩
  · have hdu := h.due rfl
    rw [hd] at hdu
    obtain ⟨rfl, rfl, ks', rfl, hkl, hown, hkF⟩ := hdu
    have hfew := h.ok.few
    have hlt : Hid (crash (ks'.take 32) s = crash ks' s) := Lib.hid (by unfold crash; rw [lose_take 32 ks' s.files hfew])
    have h1 : RFz false (w.setCell ⟨rb, 5, none⟩ (.int .i64 (-1))) rb s v kv (-1) true F := by
      refine ⟨h.ok, At.set h.head 5 _, own_same h.row (fun b hb => Below.heap_setCell w ⟨rb, 5, none⟩ _ b (fun e => own_ne h.row h.head (by decide) (by have e' : b = rb := e; rw [← e']; exact hb))), h.rowF, (fun hq => by cases hq), h.mine, fun b hb => by simpa using h.lt b hb⟩
    have hown1 : (w.setCell ⟨rb, 5, none⟩ (.int .i64 (-1))).ownsRow 0 3 1 kv ks'.length (iv ks') := own_same hown (fun b hb => Below.heap_setCell w ⟨rb, 5, none⟩ _ b (fun e => own_ne hown h.head (by decide) (by have e' : b = rb := e; rw [← e']; exact hb)))
    have hT1 : Turned F w (w.setCell ⟨rb, 5, none⟩ (.int .i64 (-1))) := (Turned.refl F w).setCell (.inl h.mine) _
    obtain ⟨KA, kc, kb, rfl, _, _, hL, hkb⟩ := own_LRd hown1
    have hne : ks'.length ≠ 0 → ∃ b, KA = some ⟨b, 0, none⟩ := fun h0 => by
      obtain ⟨g, cap, hv, _⟩ := hown1.form (by omega)
      injection hv with hv
      exact ⟨g, hv⟩
    have C : Calls Tryz.prog 42 #[.pointer (some ⟨rb, 0, none⟩), .slice KA ks'.length kc] (w.setCell ⟨rb, 5, none⟩ (.int .i64 (-1))) fun e w' => e = .returned (.int .i64 0) ∧ RWent F rb (crash ks' s) w w' := by
      have hh : (∃ lo hi, LRd (w.setCell ⟨rb, 5, none⟩ (.int .i64 (-1))) lo hi KA (iv ks') ∧ (∀ g, v.ownBlock = some g → g < lo ∨ hi ≤ g) ∧ (rb < lo ∨ hi ≤ rb)) := by
        rcases Nat.eq_zero_or_pos ks'.length with h0 | h0
        · exact ⟨0, 0, fun hp => absurd hp (by rw [iv_length]; omega), fun g _ => .inr (Nat.zero_le _), .inr (Nat.zero_le _)⟩
        · obtain ⟨b, rfl⟩ := hne (by omega)
          have hb := hkb b rfl
          subst hb
          refine ⟨b, b + 1, hL, fun g hg => ?_, ?_⟩
          · have : g ≠ b := fun e => by
              obtain ⟨cs, hx⟩ := own_at h1.row hg
              exact own_ne hown1 hx (by decide) (by rw [e]; rfl)
            omega
          · have : rb ≠ b := fun e => own_ne hown1 h1.head (by decide) (by rw [e]; rfl)
            omega
      obtain ⟨lo, hi, k1, k2, k3⟩ := hh
      exact (refCrash_is KA kc lo hi ks' _ (by omega) k1 hon h1 k2 k3).mono fun e w' ⟨he, hw⟩ => ⟨he, RWent.trans hT1 (fun _ h => .inl h) hw⟩
    have C := Lib.hid C
    clear h h1 hown hown1 hT1 hL hkb hkF hne hd
    dsimp only
    rw [hlt.out]
    go_enter Tryz.func62, Tryz.ntmps62
    go_wp2_with (go_at_call 42; refine C.out.mono ?_; rintro e w' ⟨rfl, hW⟩)
    go_ret
    exact ⟨rfl, hW⟩
  · have hdu := h.due rfl
    rw [hd] at hdu
    obtain ⟨rfl, rfl, ks', rfl, hkl, hown, hkF⟩ := hdu
    have hn9 := (h.ok.due _ _ hd).1
    have hk32 := (h.ok.due _ _ hd).2
    have hw1 : IntKind.i64.wrap (((n + 1 : Nat) : Int) - 1) = (n : Int) := by rw [show (((n + 1 : Nat) : Int) - 1) = (n : Int) by omega]; exact IntWalk.i64_in _ (by omega)
    have hge : decide ((0 : Int) ≤ (n : Int)) = true := decide_eq_true (by omega)
    have HZ : Hid (RWent F rb { s with due := some (n, ks'.take 32) } w (w.setCell ⟨rb, 5, none⟩ (.int .i64 (n : Int)))) := Lib.hid (by
      refine ⟨(Turned.refl F w).setCell (.inl h.mine) _, F, fun b hb => .inl hb, v, kv, (n : Int), true, ?_, At.set h.head 5 _, own_same h.row (fun b hb => Below.heap_setCell w ⟨rb, 5, none⟩ _ b (fun e => own_ne h.row h.head (by decide) (by have e' : b = rb := e; rw [← e']; exact hb))), h.rowF, fun _ => ⟨rfl, rfl, ks', rfl, hkl, ?_, hkF⟩, h.mine, fun b hb => by simpa using h.lt b hb⟩
      · exact h.ok.set h.ok.f s.off s.starts (some (n, ks'.take 32)) (fun m ks hm => by
          injection hm with hm
          injection hm with h1 h2
          subst h1 h2
          exact ⟨by omega, hk32⟩)
      · exact own_same hown (fun b hb => Below.heap_setCell w ⟨rb, 5, none⟩ _ b (fun e => own_ne hown h.head (by decide) (by have e' : b = rb := e; rw [← e']; exact hb))))
    clear h hown hkF hd
    go_enter Tryz.func62, Tryz.ntmps62
    go_wp2
    go_ret
    exact ⟨rfl, HZ.out⟩
end
end Go.Proofs.YtlbhegicapggeaaGreat.fil
