/- Files, the laws: a file system behind what was done to it. -/
import Derived.Test.YtpdegpppeepphaaFilRun
namespace Go.Proofs.Ytpdegpppeepphaa.fil
open Go.RowKit Go.Lib Go.Maps Go.WideMaps
set_option linter.unusedVariables false
set_option linter.unusedSimpArgs false
set_option linter.unnecessarySimpa false
set_option linter.unusedSectionVars false

def act1 (s : St) (d : Dt) : St := if d.what % 12 = 11 then s else (step s d).2
def acted (n : Nat) (ds : List Dt) : St := ds.foldl act1 (sNew n)
def after (n : Nat) (ds : List Dt) : St := if (acted n ds).off = true then (sStart (acted n ds)).2 else acted n ds
theorem acted_succ (n : Nat) (ds : List Dt) (i : Nat) (d : Dt) (h : ds[i]? = some d) : acted n (ds.take (i + 1)) = act1 (acted n (ds.take i)) d := by
  unfold acted
  rw [List.take_add_one, h, List.foldl_append]
  rfl
theorem stroke_due {s : St} (h : s.due = none) (e : Int) (early : Bool) (t : List Fl) : (stroke s e early t).2.due = none := by
  unfold stroke
  rw [h]
  repeat' split
  all_goals first | exact h | rfl | (rename_i hx; cases hx)
theorem act1_due {s : St} (h : s.due = none) (d : Dt) : (act1 s d).due = none := by
  unfold act1
  split
  · exact h
  · rename_i hn
    unfold step sSync sTrunc sRename sRemove sAppend
    repeat' split
    all_goals first
      | exact stroke_due h _ _ _
      | (unfold sCrash crash; split <;> first | exact h | rfl)
      | (unfold sStart; split <;> exact h)
      | (exfalso; omega)
theorem stroke_cap (s : St) (e : Int) (early : Bool) (t : List Fl) : (stroke s e early t).2.cap = s.cap := by
  unfold stroke crash
  repeat' split
  all_goals rfl
theorem step_cap (s : St) (d : Dt) : (step s d).2.cap = s.cap := by
  unfold step sSync sTrunc sRename sRemove sAppend
  repeat' split
  all_goals first
    | exact stroke_cap _ _ _ _
    | (unfold sCrash crash; split <;> rfl)
    | (unfold sStart; split <;> rfl)
    | (unfold sFail; repeat' split
       all_goals rfl)
theorem act1_cap (s : St) (d : Dt) : (act1 s d).cap = s.cap := by
  unfold act1
  split
  · rfl
  · exact step_cap s d
theorem act1_starts (s : St) (d : Dt) : (act1 s d).starts ≤ s.starts + 1 := by
  unfold act1
  split
  · omega
  · exact step_starts s d
theorem acted_facts (n : Nat) (ds : List Dt) : (acted n ds).due = none ∧ (acted n ds).cap = n ∧ (acted n ds).starts ≤ ds.length := by
  have key : ∀ (l : List Dt) (s : St), s.due = none → s.cap = n → (l.foldl act1 s).due = none ∧ (l.foldl act1 s).cap = n ∧ (l.foldl act1 s).starts ≤ s.starts + l.length := by
    intro l
    induction l with
    | nil => intro s h1 h2; exact ⟨h1, h2, Nat.le_refl _⟩
    | cons d l ih =>
      intro s h1 h2
      obtain ⟨a, b, c⟩ := ih (act1 s d) (act1_due h1 d) ((act1_cap s d).trans h2)
      have := act1_starts s d
      exact ⟨a, b, by simp only [List.foldl_cons, List.length_cons]; omega⟩
  have := key ds (sNew n) rfl rfl
  exact ⟨this.1, this.2.1, by have h := this.2.2; simpa [sNew, acted] using h⟩
theorem after_on (n : Nat) (ds : List Dt) : (after n ds).off = false := by
  unfold after
  split
  · rename_i h; unfold sStart; rw [if_pos h]
  · rename_i h; simpa using h
theorem after_facts (n : Nat) (ds : List Dt) : (after n ds).due = none ∧ (after n ds).cap = n ∧ (after n ds).starts ≤ ds.length + 1 := by
  obtain ⟨h1, h2, h3⟩ := acted_facts n ds
  unfold after
  split
  · rename_i h
    unfold sStart
    rw [if_pos h]
    exact ⟨h1, h2, by show _ + 1 ≤ _; omega⟩
  · exact ⟨h1, h2, by omega⟩
/-- A list that one may read, in a later world. -/
theorem Dos.later {w w' : World} {hi n : Nat} {A : Option Addr} {ds : List Dt} (h : Dos w hi A ds) (hB : Below n w w') (hn : hi ≤ n) : Dos w' hi A ds := h.belowN (hB.mono hn)

set_option maxHeartbeats 4000000 in
set_option maxRecDepth 100000 in
theorem after_is (A : Option Addr) (c n hi size : Nat) (ds : List Dt) (w : World) (hn : n = ds.length) (hfew : n ≤ 1000) (hsz : size < 65536) (hhi : hi ≤ w.heap.size) (h : Dos w hi A ds) :
    Calls Try.prog 25 #[.int .u16 size, .slice A n c] w fun e w' => e = .returned (.pointer (some ⟨w.heap.size + 1, 0, none⟩)) ∧ Run w.heap.size w (w.heap.size + 1) (after (1 + size) ds) w' := by
  have HN := Lib.hid hn
  have HD := Lib.hid h
  clear hn h
  have C0 := new_run (1 + size) w (by omega) (by omega)
  rw [show ((1 + size : Nat) : Int) = 1 + (size : Int) by omega] at C0
  have C0 := Lib.hid C0
  have hw1 : IntKind.i64.wrap (1 + (size : Int)) = 1 + (size : Int) := IntWalk.i64_in _ (by omega)
  have HF := Lib.hid (acted_facts (1 + size))
  go_enter Try.func25, Try.ntmps25
  go_wp2_with (go_at_call 10; refine C0.out.mono ?_; rintro e w1 ⟨rfl, hR⟩)
  clear C0
  go_loopg [7] n (fun g s7 wr => ∃ i : Nat, s7 = .int .i64 i ∧ i ≤ n ∧ n - i ≤ g ∧ Run w.heap.size w (w.heap.size + 1) (acted (1 + size) (ds.take i)) wr)
  case atStart => exact ⟨0, rfl, Nat.zero_le _, by omega, by simpa [acted] using hR⟩
  case round =>
    obtain ⟨i, rfl, hi', hg, hRi⟩ := hrel
    clear hR
    have hB := hRi.below
    by_cases hlt : i < n
    · obtain ⟨d, hd⟩ : ∃ d, ds[i]? = some d := ⟨ds[i]'(by rw [← HN.out]; exact hlt), List.getElem?_eq_getElem _⟩
      have hdm := List.mem_of_getElem? hd
      obtain ⟨b, off, rfl, hb, g0, g1, g2, g3, g4, g5⟩ := (HD.out.later hB hhi).at hd
      have hok := HD.out.ok d hdm
      have hk := ((HD.out.later hB hhi).lists d hdm).more (Nat.zero_le 0) hhi
      have hfs := (HF.out (ds.take i)).2.2
      rw [List.length_take] at hfs
      have hw := hok.what
      have HS := Lib.hid (acted_succ (1 + size) ds i d hd)
      have hb' : b < w.heap.size := by omega
      have C := Lib.hid (with_run d hok hk (by omega) hRi)
      obtain ⟨m, hm, hm12⟩ : ∃ m, d.what % 12 = m ∧ m < 12 := ⟨_, rfl, by omega⟩
      have hz : (d.what : Int) % 12 = (m : Int) := by omega
      have HM := Lib.hid hm
      have HR := Lib.hid hRi
      clear hd hdm hok hk hfs hm hRi hB
      by_cases hm11 : m = 11
      · subst hm11
        have HE : Hid (acted (1 + size) (ds.take (i + 1)) = acted (1 + size) (ds.take i)) := Lib.hid (by rw [HS.out]; unfold act1; rw [if_pos HM.out])
        clear C HS
        generalize d.what = xw at *
        go_wp2
        go_roundg (n - (i + 1))
        case measure => omega
        case rel => exact ⟨i + 1, by go_num, by omega, by omega, by rw [HE.out]; exact HR.out⟩
      · have hne : ¬ (m : Int) = 11 := by omega
        have HE : Hid (acted (1 + size) (ds.take (i + 1)) = (step (acted (1 + size) (ds.take i)) d).2) := Lib.hid (by rw [HS.out]; unfold act1; rw [if_neg (by rw [HM.out]; exact hm11)])
        unfold Dt.val at C
        clear HS
        go_wp2_with (go_at_call 12; refine C.out.mono ?_; rintro e w2 ⟨rfl, hR2⟩)
        go_roundg (n - (i + 1))
        case measure => omega
        case rel => exact ⟨i + 1, by go_num, by omega, by omega, by rw [HE.out]; exact hR2⟩
    · obtain rfl : i = n := by omega
      have e : ds.take i = ds := List.take_of_length_le (by rw [← HN.out]; exact Nat.le_refl _)
      rw [e] at hRi
      have hfs := (HF.out ds).2.2
      rw [← HN.out] at hfs
      have CU := up_run hRi
      have CS := start_run (by omega) hRi
      have HR := Lib.hid hRi
      clear hfs hRi e
      rcases hoff : (acted (1 + size) ds).off with _ | _
      · have HE : Hid (after (1 + size) ds = acted (1 + size) ds) := Lib.hid (by unfold after; rw [if_neg (by rw [hoff]; decide)])
        rw [hoff] at CU
        have CU := Lib.hid CU
        clear CS hoff
        go_wp2_with (go_at_call 21; refine CU.out.mono ?_; rintro e w2 ⟨rfl, rfl⟩)
        go_ret
        exact ⟨rfl, by rw [HE.out]; exact HR.out⟩
      · have HE : Hid (after (1 + size) ds = (sStart (acted (1 + size) ds)).2) := Lib.hid (by unfold after; rw [if_pos hoff])
        have e0 : (sStart (acted (1 + size) ds)).1 = 0 := by unfold sStart; rw [if_pos hoff]
        rw [hoff] at CU
        rw [e0] at CS
        have CU := Lib.hid CU
        have CS := Lib.hid CS
        clear hoff e0
        go_wp2_with (first
          | (go_at_call 21; refine CU.out.mono ?_; rintro e w2 ⟨rfl, rfl⟩)
          | (go_at_call 28; refine CS.out.mono ?_; rintro e w2 ⟨rfl, hR2⟩))
        go_ret
        exact ⟨rfl, by rw [HE.out]; exact hR2⟩
end Go.Proofs.Ytpdegpppeepphaa.fil
