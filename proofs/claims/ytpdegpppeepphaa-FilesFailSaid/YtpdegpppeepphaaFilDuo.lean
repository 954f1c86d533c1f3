/- Files, the laws: two file systems side by side; a stroke with a crash that is due, and without. -/
import Derived.Test.YtpdegpppeepphaaFilGo
namespace Go.Proofs.Ytpdegpppeepphaa.fil
open Go.RowKit Go.Lib Go.Maps Go.WideMaps
set_option linter.unusedVariables false
set_option linter.unusedSimpArgs false
set_option linter.unnecessarySimpa false
set_option linter.unusedSectionVars false

/-- What a thing says against itself, and what it leaves of the files. -/
def errOf (t : St) (d : Dt) : Int :=
  if d.what % 12 = 3 ∨ d.what % 12 = 4 then errThere t d.a.data.toList
  else if d.what % 12 = 5 then errTrunc t d.a.data.toList d.n
  else if d.what % 12 = 6 then errRename t d.a.data.toList d.b.data.toList
  else if d.what % 12 = 7 then errThere t d.a.data.toList
  else errAppend t d.a.data.toList d.t.data.toList.length
def doOf (t : St) (d : Dt) : List Fl :=
  if d.what % 12 = 3 ∨ d.what % 12 = 4 then doSync t d.a.data.toList
  else if d.what % 12 = 5 then doTrunc t d.a.data.toList d.n
  else if d.what % 12 = 6 then doRename t d.a.data.toList d.b.data.toList
  else if d.what % 12 = 7 then del t.files d.a.data.toList
  else doAppend t d.a.data.toList d.t.data.toList
theorem step_is (s : St) (d : Dt) (h : d.what % 12 ≤ 7) : step s d = stroke s (errOf s d) (decide (d.what % 12 < 3)) (doOf s d) := by
  unfold step errOf doOf
  by_cases h1 : d.what % 12 = 3 ∨ d.what % 12 = 4
  · rw [if_pos h1, if_pos h1, if_pos h1, decide_eq_false (by omega)]; rfl
  rw [if_neg h1, if_neg h1, if_neg h1]
  by_cases h2 : d.what % 12 = 5
  · rw [if_pos h2, if_pos h2, if_pos h2, decide_eq_false (by omega)]; rfl
  rw [if_neg h2, if_neg h2, if_neg h2]
  by_cases h3 : d.what % 12 = 6
  · rw [if_pos h3, if_pos h3, if_pos h3, decide_eq_false (by omega)]; rfl
  rw [if_neg h3, if_neg h3, if_neg h3]
  by_cases h4 : d.what % 12 = 7
  · rw [if_pos h4, if_pos h4, if_pos h4, decide_eq_false (by omega)]; rfl
  rw [if_neg h4, if_neg h4, if_neg h4, if_neg (by omega), if_neg (by omega), if_neg (by omega), decide_eq_true (by omega)]
  rfl
/-- The same system, a crash due behind so many strokes. -/
def dueIn (t : St) (k : Nat) (ks : List Int) : St := { t with due := some (k, ks) }
theorem errOf_due (t : St) (k : Nat) (ks : List Int) (d : Dt) : errOf (dueIn t k ks) d = errOf t d := rfl
theorem doOf_due (t : St) (k : Nat) (ks : List Int) (d : Dt) : doOf (dueIn t k ks) d = doOf t d := rfl
def put (t : St) (l : List Fl) : St := { t with files := l }
section
variable {t : St} {d : Dt} (hd : d.what % 12 ≤ 7) (hon : t.off = false)
theorem plain_err (hd : d.what % 12 ≤ 7) (hon : t.off = false) (he : errOf t d ≠ 0) : step t d = (errOf t d, t) := by
  rw [step_is t d hd]; unfold stroke; rw [if_neg (by rw [hon]; decide), if_neg he]
theorem plain_ok (hd : d.what % 12 ≤ 7) (hon : t.off = false) (hn : t.due = none) (he : errOf t d = 0) : step t d = (0, put t (doOf t d)) := by
  rw [step_is t d hd]; unfold stroke; rw [if_neg (by rw [hon]; decide), if_pos he, hn]; unfold put; rw [hn]
theorem due_err (k : Nat) (ks : List Int) (hd : d.what % 12 ≤ 7) (hon : t.off = false) (he : errOf t d ≠ 0) : step (dueIn t k ks) d = (errOf t d, dueIn t k ks) :=
  plain_err (t := dueIn t k ks) hd hon he
theorem due_ok (k : Nat) (ks : List Int) (hd : d.what % 12 ≤ 7) (hon : t.off = false) (he : errOf t d = 0) : step (dueIn t (k + 1) ks) d = (0, dueIn (put t (doOf t d)) k ks) := by
  rw [step_is _ d hd, errOf_due, doOf_due]; unfold stroke; rw [if_neg (by show ¬ t.off = true; rw [hon]; decide), if_pos he]; rfl
/-- What a stroke that dies has left. -/
def leftOf (t : St) (d : Dt) : List Fl := if d.what % 12 < 3 then doOf t d else t.files
theorem due_dies (ks : List Int) (hd : d.what % 12 ≤ 7) (hon : t.off = false) (he : errOf t d = 0) : step (dueIn t 0 ks) d = (51, crash ks (put t (leftOf t d))) := by
  rw [step_is _ d hd, errOf_due, doOf_due]; unfold stroke; rw [if_neg (by show ¬ t.off = true; rw [hon]; decide), if_pos he]
  unfold leftOf
  by_cases h3 : d.what % 12 < 3
  · rw [if_pos h3, decide_eq_true h3]; rfl
  · rw [if_neg h3, decide_eq_false h3]; rfl
end

/-- Two systems, of blocks apart; what is none of theirs is as it was at wb. -/
def Duo (F0 G0 : Nat → Prop) (wb : World) (fb gb : Nat) (s t : St) (w : World) : Prop :=
  Turned (fun b => F0 b ∨ G0 b) wb w ∧ ∃ F G, (∀ b, F b → F0 b ∨ wb.heap.size ≤ b) ∧ (∀ b, G b → G0 b ∨ wb.heap.size ≤ b) ∧ (∀ b, F b → ¬ G b) ∧ IsFs w fb s F ∧ IsFs w gb t G
section
variable {F0 G0 : Nat → Prop} {wb w w' : World} {fb gb : Nat} {s s' t t' : St}
theorem Duo.start (hF : IsFs w fb s F0) (hG : IsFs w gb t G0) (hd : ∀ b, F0 b → ¬ G0 b) : Duo F0 G0 w fb gb s t w :=
  ⟨.refl _ _, F0, G0, fun _ h => .inl h, fun _ h => .inl h, hd, hF, hG⟩
theorem Duo.move (h : Duo F0 G0 wb fb gb s t w) (hB : Below w.heap.size w w') : Duo F0 G0 wb fb gb s t w' := by
  obtain ⟨hT, F, G, h1, h2, h3, h4, h5⟩ := h
  exact ⟨hT.then_below hB, F, G, h1, h2, h3, h4.below hB, h5.below hB⟩
theorem Duo.one (h : Duo F0 G0 wb fb gb s t w) : Has w fb s := by obtain ⟨_, F, G, _, _, _, h4, _⟩ := h; exact ⟨F, h4⟩
theorem Duo.two (h : Duo F0 G0 wb fb gb s t w) : Has w gb t := by obtain ⟨_, F, G, _, _, _, _, h5⟩ := h; exact ⟨G, h5⟩
theorem Duo.swap (h : Duo F0 G0 wb fb gb s t w) : Duo G0 F0 wb gb fb t s w := by
  obtain ⟨hT, F, G, h1, h2, h3, h4, h5⟩ := h
  exact ⟨hT.mono fun _ h => h.symm, G, F, h2, h1, fun b hg hf => h3 b hf hg, h5, h4⟩
theorem duo_pass {k : FuncId} {args : Array Value} {r : Ending} (h : Duo F0 G0 wb fb gb s t w) (H : ∀ F, IsFs w fb s F → (∀ b, F b → F0 b ∨ wb.heap.size ≤ b) → Calls Try.prog k args w fun e w' => e = r ∧ Went F fb s' w w') :
    Calls Try.prog k args w fun e w' => e = r ∧ Duo F0 G0 wb fb gb s' t w' := by
  obtain ⟨hT, F, G, h1, h2, h3, h4, h5⟩ := h
  refine (H F h4 h1).mono ?_
  rintro e w' ⟨he, hT', F', k1, k2⟩
  have hs := hT.size
  refine ⟨he, hT.trans hT' (fun i hi => (h1 i hi).imp .inl id), F', G, fun b hb => ?_, h2, fun b hb hg => ?_, k2, h5.apart hT' fun b hg hf => h3 b hf hg⟩
  · rcases k1 b hb with h | h
    · exact h1 b h
    · exact .inr (by omega)
  · rcases k1 b hb with h | h
    · exact h3 b h hg
    · have := h5.lt b hg; omega
theorem with_duo (d : Dt) (lo hi : Nat) (hd : d.Ok) (hk : LRd w lo hi d.kA (iv d.k)) (hF : ∀ b, F0 b ∨ wb.heap.size ≤ b → b < lo ∨ hi ≤ b) (hs : s.starts ≤ 1000000) (h : Duo F0 G0 wb fb gb s t w) :
    Calls Try.prog 12 #[.pointer (some ⟨fb, 0, none⟩), d.val] w fun e w' => e = .returned (.int .i64 (step s d).1) ∧ Duo F0 G0 wb fb gb (step s d).2 t w' :=
  duo_pass h fun F hI h1 => with_is d lo hi w hd hk (fun b hb => hF b (h1 b hb)) hs hI
theorem start_duo (hs : s.starts ≤ 1000000) (h : Duo F0 G0 wb fb gb s t w) :
    Calls Try.prog 28 #[.pointer (some ⟨fb, 0, none⟩)] w fun e w' => e = .returned (.int .i64 (sStart s).1) ∧ Duo F0 G0 wb fb gb (sStart s).2 t w' :=
  duo_pass h fun F hI h1 => start_is w hs hI
theorem fail_duo (A : Option Addr) (c lo hi : Nat) (m : Int) (ks : List Int) (hkc : ks.length ≤ c) (hcm : c ≤ 9223372036854775807) (hnm : m ≤ 9223372036854775807) (hk : LRd w lo hi A (iv ks)) (h : Duo F0 G0 wb fb gb s t w) :
    Calls Try.prog 29 #[.pointer (some ⟨fb, 0, none⟩), .int .i64 m, .slice A ks.length c] w fun e w' => e = .returned (.int .i64 (sFail s m ks).1) ∧ Duo F0 G0 wb fb gb (sFail s m ks).2 t w' :=
  duo_pass h fun F hI h1 => fail_is A c lo hi m ks w hkc hcm hnm hk hI
theorem LRd.duo {lo hi : Nat} {A : Option Addr} {xs : List Value} (h : LRd wb lo hi A xs) (hD : Duo F0 G0 wb fb gb s t w) (hF : ∀ b, F0 b ∨ G0 b → b < lo ∨ hi ≤ b) : LRd w lo hi A xs := h.turned hD.1 hF
theorem Duo.below {n : Nat} (h : Duo F0 G0 wb fb gb s t w) (hn : n ≤ wb.heap.size) (hF : ∀ b, F0 b ∨ G0 b → n ≤ b) : Below n wb w := h.1.below hn hF

/-- Two systems above block n. -/
def Both (n : Nat) (w0 : World) (fb gb : Nat) (s t : St) (w : World) : Prop :=
  Below n w0 w ∧ ∃ F G, (∀ b, F b → n ≤ b) ∧ (∀ b, G b → n ≤ b) ∧ (∀ b, F b → ¬ G b) ∧ IsFs w fb s F ∧ IsFs w gb t G
theorem Duo.both {n : Nat} {w0 : World} (h : Duo F0 G0 wb fb gb s t w) (hb : Below n w0 wb) (hn : n ≤ wb.heap.size) (hF : ∀ b, F0 b → n ≤ b) (hG : ∀ b, G0 b → n ≤ b) : Both n w0 fb gb s t w := by
  have hB := h.below hn (fun b hb => hb.elim (hF b) (hG b))
  obtain ⟨_, F, G, h1, h2, h3, h4, h5⟩ := h
  exact ⟨hb.trans hB, F, G, fun b hb => (h1 b hb).elim (hF b) (fun h => Nat.le_trans hn h), fun b hb => (h2 b hb).elim (hG b) (fun h => Nat.le_trans hn h), h3, h4, h5⟩
end
end Go.Proofs.Ytpdegpppeepphaa.fil
