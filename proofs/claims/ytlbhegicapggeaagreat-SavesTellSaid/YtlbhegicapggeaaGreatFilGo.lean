/- Files, the laws: calls at a system that was told of; what stays beside it. -/
import Derived.Test.YtlbhegicapggeaaGreatFilMuch
/-! Files, the laws: the chapter's examples. -/
namespace Go.Proofs.YtlbhegicapggeaaGreat.fil
open Go.RowKit Go.Lib Go.Maps Go.WideMaps
set_option linter.unusedVariables false
set_option linter.unusedSimpArgs false
set_option linter.unnecessarySimpa false
set_option linter.unusedSectionVars false

/-- The examples' things; their two lists lie in the blocks n and n + 1. -/
def acts (n : Nat) : List Dt :=
  [⟨0, B [98], B [], B [120, 121, 122], 0, none, 0, []⟩, ⟨3, B [98], B [], B [], 0, none, 0, []⟩, ⟨0, B [98], B [], B [117, 118], 0, none, 0, []⟩, ⟨0, B [97], B [], B [49, 50, 51, 52, 53], 0, none, 0, []⟩, ⟨0, B [97], B [], B [54], 0, none, 0, []⟩,
   ⟨8, B [], B [], B [], 0, some ⟨n, 0, none⟩, 2, [3, 1]⟩, ⟨9, B [], B [], B [], 0, none, 0, []⟩, ⟨11, B [], B [], B [], 1, some ⟨n + 1, 0, none⟩, 2, [0, 9]⟩, ⟨5, B [98], B [], B [], 2, none, 0, []⟩, ⟨0, B [98], B [], B [113], 0, none, 0, []⟩, ⟨9, B [], B [], B [], 0, none, 0, []⟩]
def wants : List Int := [0, 0, 0, 0, 50, 0, 0, 0, 0, 51, 0]
def run10 (i : Nat) : St := ((acts 0).take i).foldl (fun s d => (step s d).2) (sNew 10)
theorem acts_length (n : Nat) : (acts n).length = 11 := rfl
theorem run_step (n : Nat) : ∀ i, i < 11 → ∀ d, (acts n)[i]? = some d → step (run10 i) d = (wants.getD i 0, run10 (i + 1)) := by
  have key : ∀ i, i < 11 → (step (run10 i) ((acts 0).getD i ⟨0, B [], B [], B [], 0, none, 0, []⟩)).1 = wants.getD i 0 := by decide +kernel
  intro i hi d hd
  have e : step (run10 i) d = step (run10 i) ((acts 0).getD i ⟨0, B [], B [], B [], 0, none, 0, []⟩) := by
    match i, hi with
    | 0, _ | 1, _ | 2, _ | 3, _ | 4, _ | 5, _ | 6, _ | 7, _ | 8, _ | 9, _ | 10, _ => injection hd with hd; rw [← hd]; rfl
  have hlt : i < (acts 0).length := hi
  rw [e]
  refine Prod.ext (key i hi) ?_
  show _ = ((acts 0).take (i + 1)).foldl _ _
  rw [List.take_add_one, List.getElem?_eq_getElem hlt, List.foldl_append]
  simp [List.getD, List.getElem?_eq_getElem hlt, run10]
theorem run_air : airOf (run10 5).files = [5, 2] := by decide +kernel
theorem run_a : reads (run10 11) [97] = ([49, 50, 51], 0) := by decide +kernel
theorem run_b : reads (run10 11) [98] = ([120, 121, 113], 0) := by decide +kernel
theorem run_starts : (run10 11).starts = 2 := by decide +kernel
theorem run_few (i : Nat) : (run10 i).starts ≤ i := by
  have : ∀ (l : List Dt) (s : St), (l.foldl (fun s d => (step s d).2) s).starts ≤ s.starts + l.length := by
    intro l
    induction l with
    | nil => intro s; exact Nat.le_refl _
    | cons d l ih =>
      intro s
      have h1 := ih (step s d).2
      have h2 := step_starts s d
      rw [List.foldl_cons, List.length_cons]
      omega
  have h1 := this ((acts 0).take i) (sNew 10)
  rw [List.length_take] at h1
  have h2 : (sNew 10).starts = 0 := rfl
  unfold run10
  omega
theorem acts_ok (n : Nat) : ∀ d ∈ acts n, d.Ok := by
  intro d hd
  simp only [acts, List.mem_cons, List.not_mem_nil, or_false] at hd
  rcases hd with rfl | rfl | rfl | rfl | rfl | rfl | rfl | rfl | rfl | rfl | rfl <;> exact ⟨by simp, by simp [B_size, maxLen], by simp [B_size, maxLen], by simp [B_size, maxLen], by simp, by simp, by simp, by simp [maxLen]⟩
end Go.Proofs.YtlbhegicapggeaaGreat.fil

/-! Files, the laws: a file system that was made since then. -/
namespace Go.Proofs.YtlbhegicapggeaaGreat.fil
open Go.RowKit Go.Lib Go.Maps Go.WideMaps
set_option linter.unusedVariables false
set_option linter.unusedSimpArgs false
set_option linter.unnecessarySimpa false
set_option linter.unusedSectionVars false

/-- What lies below block n is as it was at w0, and a file system lies above. -/
structure Run (n : Nat) (w0 : World) (fb : Nat) (s : St) (w : World) : Prop where
  below : Below n w0 w
  room : n ≤ w0.heap.size
  is : ∃ F, (∀ b, F b → n ≤ b) ∧ IsFs w fb s F

section
variable {n fb : Nat} {w0 w w' : World} {s s' : St} {F : Nat → Prop}
theorem Run.size (h : Run n w0 fb s w) : n ≤ w.heap.size := Nat.le_trans h.room h.below.size
theorem Run.ok (h : Run n w0 fb s w) : Ok s := by obtain ⟨F, _, hF⟩ := h.is; exact hF.ok
theorem Run.move (h : Run n w0 fb s w) (hB : Below w.heap.size w w') : Run n w0 fb s w' := by
  obtain ⟨F, h1, h2⟩ := h.is
  exact ⟨h.below.trans (hB.mono h.size), h.room, F, h1, h2.below hB⟩
theorem Run.went (hb : Below n w0 w) (hr : n ≤ w0.heap.size) (hF : ∀ b, F b → n ≤ b) (hW : Went F fb s' w w') : Run n w0 fb s' w' := by
  obtain ⟨hT, F', h1, h2⟩ := hW
  have hs := hb.size
  refine ⟨hb.trans (hT.below (by omega) hF), hr, F', fun b hb => ?_, h2⟩
  rcases h1 b hb with h | h
  · exact hF b h
  · omega
theorem new_run (m : Nat) (w : World) (h1 : 1 ≤ m) (h2 : m ≤ 1048576) :
    Calls Tryz.prog 5 #[.int .i64 m] w fun e w' => e = .returned (.tuple #[.pointer (some ⟨w.heap.size + 1, 0, none⟩), .int .i64 0]) ∧ Run w.heap.size w (w.heap.size + 1) (sNew m) w' :=
  (new_is m w h1 h2).mono fun e w' ⟨he, hB, hI⟩ => ⟨he, hB, Nat.le_refl _, _, fun b hb => hb.1, hI⟩
theorem with_run (d : Dt) (hd : d.Ok) (hk : LRd w 0 n d.kA (iv d.k)) (hs : s.starts ≤ 1000000) (h : Run n w0 fb s w) :
    Calls Tryz.prog 13 #[.pointer (some ⟨fb, 0, none⟩), d.val] w fun e w' => e = .returned (.int .i64 (step s d).1) ∧ Run n w0 fb (step s d).2 w' := by
  obtain ⟨F, h1, h2⟩ := h.is
  exact (with_is d 0 n w hd hk (fun b hb => .inr (h1 b hb)) hs h2).mono fun e w' ⟨he, hW⟩ => ⟨he, Run.went h.below h.room h1 hW⟩
theorem crash_run (A : Option Addr) (c : Nat) (ks : List Int) (hkl : ks.length ≤ 9223372036854775807) (hk : LRd w 0 n A (iv ks)) (h : Run n w0 fb s w) :
    Calls Tryz.prog 38 #[.pointer (some ⟨fb, 0, none⟩), .slice A ks.length c] w fun e w' => e = .returned (.int .i64 (sCrash s ks).1) ∧ Run n w0 fb (sCrash s ks).2 w' := by
  obtain ⟨F, h1, h2⟩ := h.is
  exact (crash_is A c 0 n ks w hkl hk (fun b hb => .inr (h1 b hb)) h2).mono fun e w' ⟨he, hW⟩ => ⟨he, Run.went h.below h.room h1 hW⟩
theorem fail_run (A : Option Addr) (c : Nat) (m : Int) (ks : List Int) (hkc : ks.length ≤ c) (hcm : c ≤ 9223372036854775807) (hnm : m ≤ 9223372036854775807) (hk : LRd w 0 n A (iv ks)) (h : Run n w0 fb s w) :
    Calls Tryz.prog 40 #[.pointer (some ⟨fb, 0, none⟩), .int .i64 m, .slice A ks.length c] w fun e w' => e = .returned (.int .i64 (sFail s m ks).1) ∧ Run n w0 fb (sFail s m ks).2 w' := by
  obtain ⟨F, h1, h2⟩ := h.is
  exact (fail_is A c 0 n m ks w hkc hcm hnm hk h2).mono fun e w' ⟨he, hW⟩ => ⟨he, Run.went h.below h.room h1 hW⟩
theorem start_run (hs : s.starts ≤ 1000000) (h : Run n w0 fb s w) :
    Calls Tryz.prog 39 #[.pointer (some ⟨fb, 0, none⟩)] w fun e w' => e = .returned (.int .i64 (sStart s).1) ∧ Run n w0 fb (sStart s).2 w' := by
  obtain ⟨F, h1, h2⟩ := h.is
  exact (start_is w hs h2).mono fun e w' ⟨he, hW⟩ => ⟨he, Run.went h.below h.room h1 hW⟩
theorem append_run (nm t : ByteArray) (hn : nm.size ≤ maxLen) (ht : t.size ≤ maxLen) (h : Run n w0 fb s w) :
    Calls Tryz.prog 29 #[.pointer (some ⟨fb, 0, none⟩), .string nm, .string t] w fun e w' => e = .returned (.int .i64 (sAppend s nm.data.toList t.data.toList).1) ∧ Run n w0 fb (sAppend s nm.data.toList t.data.toList).2 w' := by
  obtain ⟨F, h1, h2⟩ := h.is
  exact (append_is nm t w hn ht h2).mono fun e w' ⟨he, hW⟩ => ⟨he, Run.went h.below h.room h1 hW⟩
theorem sync_run (nm : ByteArray) (hn : nm.size ≤ maxLen) (h : Run n w0 fb s w) :
    Calls Tryz.prog 31 #[.pointer (some ⟨fb, 0, none⟩), .string nm] w fun e w' => e = .returned (.int .i64 (sSync s nm.data.toList).1) ∧ Run n w0 fb (sSync s nm.data.toList).2 w' := by
  obtain ⟨F, h1, h2⟩ := h.is
  exact (sync_is nm w hn h2).mono fun e w' ⟨he, hW⟩ => ⟨he, Run.went h.below h.room h1 hW⟩
theorem rename_run (nm t : ByteArray) (hn : nm.size ≤ maxLen) (ht : t.size ≤ maxLen) (h : Run n w0 fb s w) :
    Calls Tryz.prog 33 #[.pointer (some ⟨fb, 0, none⟩), .string nm, .string t] w fun e w' => e = .returned (.int .i64 (sRename s nm.data.toList t.data.toList).1) ∧ Run n w0 fb (sRename s nm.data.toList t.data.toList).2 w' := by
  obtain ⟨F, h1, h2⟩ := h.is
  exact (rename_is nm t w hn ht h2).mono fun e w' ⟨he, hW⟩ => ⟨he, Run.went h.below h.room h1 hW⟩

/-- Calls that only tell. -/
theorem up_run (h : Run n w0 fb s w) : Calls Tryz.prog 53 #[.pointer (some ⟨fb, 0, none⟩)] w fun e w' => e = .returned (.bool (!s.off)) ∧ w = w' := by
  obtain ⟨F, _, mb, D, G, dp, h⟩ := h.is
  exact up_is w h
theorem starts_run (h : Run n w0 fb s w) : Calls Tryz.prog 54 #[.pointer (some ⟨fb, 0, none⟩)] w fun e w' => e = .returned (.int .i64 s.starts) ∧ w = w' := by
  obtain ⟨F, _, mb, D, G, dp, h⟩ := h.is
  exact starts_is w h
theorem read_run (nm : ByteArray) (hn : nm.size ≤ maxLen) (h : Run n w0 fb s w) : Calls Tryz.prog 18 #[.pointer (some ⟨fb, 0, none⟩), .string nm] w fun e w' => e = .returned (.tuple #[.string (B (reads s nm.data.toList).1), .int .i64 (reads s nm.data.toList).2]) ∧ w = w' := by
  obtain ⟨F, _, mb, D, G, dp, h⟩ := h.is
  exact read_is nm w hn h
theorem size_run (h : Run n w0 fb s w) : Calls Tryz.prog 51 #[.pointer (some ⟨fb, 0, none⟩)] w fun e w' => e = .returned (.int .i64 (total s.files)) ∧ Below w.heap.size w w' := by
  obtain ⟨F, _, mb, D, G, dp, h⟩ := h.is
  exact size_is w h

/-- A list that a call told, in memory of its own. -/
def Tells (w : World) (len : Nat) (xs : List Value) (e : Ending) (w' : World) : Prop :=
  ∃ A c, e = .returned (.slice A len c) ∧ len ≤ c ∧ c ≤ maxLen ∧ LRd w' w.heap.size w'.heap.size A xs ∧ Below w.heap.size w w'
theorem names_run (h : Run n w0 fb s w) : Calls Tryz.prog 45 #[.pointer (some ⟨fb, 0, none⟩)] w (Tells w s.files.length (strV (namesOf s.files))) := by
  obtain ⟨F, _, mb, D, G, dp, h⟩ := h.is
  exact (names_list w h).mono fun e w' ⟨A, c, he, h1, h2, _, h3, h4⟩ => ⟨A, c, he, h1, h2, h3, h4⟩
theorem uns_run (h : Run n w0 fb s w) : Calls Tryz.prog 49 #[.pointer (some ⟨fb, 0, none⟩)] w (Tells w s.files.length (iv (airOf s.files))) := by
  obtain ⟨F, _, mb, D, G, dp, h⟩ := h.is
  exact (uns_is w h).mono fun e w' ⟨v, he, hr, hB⟩ => by
    obtain ⟨A, c, rfl, h1, h2⟩ := own_form2 hr
    exact ⟨A, c, he, h1, h2, LRd.of_own hr, hB⟩
theorem B_inj {a b : List UInt8} (h : B a = B b) : a = b := by
  have := congrArg (fun x => x.data.toList) h
  simpa [list_B] using this
theorem map_B_inj {xs ys : List (List UInt8)} (h : xs.map B = ys.map B) : xs = ys := List.map_inj_right (fun a b => B_inj) |>.1 h
theorem same_l (A1 A2 : Option Addr) (c d k m lo hi lo2 hi2 : Nat) (xs ys : List (List UInt8)) (w : World) (hk : k = xs.length) (hm : m = ys.length) (hb1 : k ≤ 100000) (hb2 : m ≤ 100000) (hh1 : hi ≤ w.heap.size) (hh2 : hi2 ≤ w.heap.size) (h1 : LRd w lo hi A1 (strV xs)) (h2 : LRd w lo2 hi2 A2 (strV ys)) :
    Calls Tryz.prog 46 #[.slice A1 k c, .slice A2 m d] w fun e w' => e = .returned (.bool (decide (xs = ys))) ∧ Below w.heap.size w w' :=
  (same12 A1 A2 c d w.heap.size k m (xs.map B) (ys.map B) w (by simpa using hk) (by simpa using hm) (by omega) (by omega) (h1.strs hh1) (h2.strs hh2)).mono fun e w' ⟨he, q, hw⟩ => by
    subst hw
    refine ⟨he.trans ?_, below_drewN (Below.refl _ w) _⟩
    by_cases h : xs = ys
    · subst h; simp
    · rw [decide_eq_false h, decide_eq_false]; exact fun e => h (map_B_inj e)
theorem numbers_l (A1 A2 : Option Addr) (c d k m lo hi lo2 hi2 : Nat) (xs ys : List Int) (w : World) (hk : k = xs.length) (hm : m = ys.length) (hb1 : k ≤ 100000) (hb2 : m ≤ 100000) (h1 : LRd w lo hi A1 (iv xs)) (h2 : LRd w lo2 hi2 A2 (iv ys)) :
    Calls Tryz.prog 48 #[.slice A1 k c, .slice A2 m d] w fun e w' => e = .returned (.bool (decide (xs = ys))) ∧ Below w.heap.size w w' :=
  (numbers A1 A2 c d k m lo hi lo2 hi2 xs ys w hk hm (by omega) (by omega) h1 h2).mono fun e w' ⟨he, q, hw⟩ => ⟨he, by rw [hw]; exact below_drewN (Below.refl _ _) q⟩
/-- A list that stands in a block by itself. -/
theorem LRd.alloc (w : World) (xs : List Value) (t : TypeId) : LRd (w.alloc (.cells xs.toArray t)) w.heap.size (w.heap.size + 1) (some ⟨w.heap.size, 0, none⟩) xs := fun _ =>
  ⟨w.heap.size, 0, rfl, Nat.le_refl _, by omega, fun j u hj => by
    have hlt : j < xs.length := (List.getElem?_eq_some_iff.1 hj).1
    rw [cell_of_row _ _ _ _ _ _ (heap_alloc_new w (.cells xs.toArray t))]
    simpa using hj⟩
end
end Go.Proofs.YtlbhegicapggeaaGreat.fil

/-! Files, the laws: a file system behind what was done to it. -/
namespace Go.Proofs.YtlbhegicapggeaaGreat.fil
open Go.RowKit Go.Lib Go.Maps Go.WideMaps
set_option linter.unusedVariables false
set_option linter.unusedSimpArgs false
set_option linter.unnecessarySimpa false
set_option linter.unusedSectionVars false

def act1 (s : St) (d : Dt) : St := if d.what % 12 = 11 then s else (step s d).2
def acted (n : Nat) (ds : List Dt) : St := ds.foldl act1 (sNew n)
def after (n : Nat) (ds : List Dt) : St := if (acted n ds).off = true then (sStart (acted n ds)).2 else acted n ds
theorem acted_succ (n : Nat) (ds : List Dt) (i : Nat) (d : Dt) (h : ds[i]? = some d) : acted n (ds.take (i + 1)) = act1 (acted n (ds.take i)) d := by
  unfold acted
  rw [List.take_add_one, h, List.foldl_append]
  rfl
theorem stroke_due {s : St} (h : s.due = none) (e : Int) (early : Bool) (t : List Fl) : (stroke s e early t).2.due = none := by
  unfold stroke
  rw [h]
  repeat' split
  all_goals first | exact h | rfl | (rename_i hx; cases hx)
theorem act1_due {s : St} (h : s.due = none) (d : Dt) : (act1 s d).due = none := by
  unfold act1
  split
  · exact h
  · rename_i hn
    unfold step sSync sTrunc sRename sRemove sAppend
    repeat' split
    all_goals first
      | exact stroke_due h _ _ _
      | (unfold sCrash crash; split <;> first | exact h | rfl)
      | (unfold sStart; split <;> exact h)
      | (exfalso; omega)
theorem stroke_cap (s : St) (e : Int) (early : Bool) (t : List Fl) : (stroke s e early t).2.cap = s.cap := by
  unfold stroke crash
  repeat' split
  all_goals rfl
theorem step_cap (s : St) (d : Dt) : (step s d).2.cap = s.cap := by
  unfold step sSync sTrunc sRename sRemove sAppend
  repeat' split
  all_goals first
    | exact stroke_cap _ _ _ _
    | (unfold sCrash crash; split <;> rfl)
    | (unfold sStart; split <;> rfl)
    | (unfold sFail; repeat' split
       all_goals rfl)
theorem act1_cap (s : St) (d : Dt) : (act1 s d).cap = s.cap := by
  unfold act1
  split
  · rfl
  · exact step_cap s d
theorem act1_starts (s : St) (d : Dt) : (act1 s d).starts ≤ s.starts + 1 := by
  unfold act1
  split
  · omega
  · exact step_starts s d
theorem acted_facts (n : Nat) (ds : List Dt) : (acted n ds).due = none ∧ (acted n ds).cap = n ∧ (acted n ds).starts ≤ ds.length := by
  have key : ∀ (l : List Dt) (s : St), s.due = none → s.cap = n → (l.foldl act1 s).due = none ∧ (l.foldl act1 s).cap = n ∧ (l.foldl act1 s).starts ≤ s.starts + l.length := by
    intro l
    induction l with
    | nil => intro s h1 h2; exact ⟨h1, h2, Nat.le_refl _⟩
    | cons d l ih =>
      intro s h1 h2
      obtain ⟨a, b, c⟩ := ih (act1 s d) (act1_due h1 d) ((act1_cap s d).trans h2)
      have := act1_starts s d
      exact ⟨a, b, by simp only [List.foldl_cons, List.length_cons]; omega⟩
  have := key ds (sNew n) rfl rfl
  exact ⟨this.1, this.2.1, by have h := this.2.2; simpa [sNew, acted] using h⟩
theorem after_on (n : Nat) (ds : List Dt) : (after n ds).off = false := by
  unfold after
  split
  · rename_i h; unfold sStart; rw [if_pos h]
  · rename_i h; simpa using h
theorem after_facts (n : Nat) (ds : List Dt) : (after n ds).due = none ∧ (after n ds).cap = n ∧ (after n ds).starts ≤ ds.length + 1 := by
  obtain ⟨h1, h2, h3⟩ := acted_facts n ds
  unfold after
  split
  · rename_i h
    unfold sStart
    rw [if_pos h]
    exact ⟨h1, h2, by show _ + 1 ≤ _; omega⟩
  · exact ⟨h1, h2, by omega⟩
/-- A list that one may read, in a later world. -/
theorem Dos.later {w w' : World} {hi n : Nat} {A : Option Addr} {ds : List Dt} (h : Dos w hi A ds) (hB : Below n w w') (hn : hi ≤ n) : Dos w' hi A ds := h.belowN (hB.mono hn)

end Go.Proofs.YtlbhegicapggeaaGreat.fil

/-! Files, the laws: calls at a system that was told of; what stays beside it. -/
namespace Go.Proofs.YtlbhegicapggeaaGreat.fil
open Go.RowKit Go.Lib Go.Maps Go.WideMaps
set_option linter.unusedVariables false
set_option linter.unusedSimpArgs false
set_option linter.unnecessarySimpa false
set_option linter.unusedSectionVars false

section
variable {fb : Nat} {w w' wb : World} {s s' : St} {F : Nat → Prop}
/-- A file system stands there. -/
def Has (w : World) (fb : Nat) (s : St) : Prop := ∃ F, IsFs w fb s F
theorem Has.move (h : Has w fb s) (hB : Below w.heap.size w w') : Has w' fb s := by obtain ⟨F, h⟩ := h; exact ⟨F, h.below hB⟩
theorem Run.has {n : Nat} {w0 : World} (h : Run n w0 fb s w) : Has w fb s := by obtain ⟨F, _, h⟩ := h.is; exact ⟨F, h⟩
theorem Wentz.has (h : Went F fb s wb w) : Has w fb s := by obtain ⟨_, F', _, h⟩ := h; exact ⟨F', h⟩
theorem Has.ok (h : Has w fb s) : Ok s := by obtain ⟨F, h⟩ := h; exact h.ok
theorem up_has (h : Has w fb s) : Calls Tryz.prog 53 #[.pointer (some ⟨fb, 0, none⟩)] w fun e w' => e = .returned (.bool (!s.off)) ∧ w = w' := by
  obtain ⟨F, mb, D, G, dp, h⟩ := h
  exact up_is w h
theorem starts_has (h : Has w fb s) : Calls Tryz.prog 54 #[.pointer (some ⟨fb, 0, none⟩)] w fun e w' => e = .returned (.int .i64 s.starts) ∧ w = w' := by
  obtain ⟨F, mb, D, G, dp, h⟩ := h
  exact starts_is w h
theorem read_has (nm : ByteArray) (hn : nm.size ≤ maxLen) (h : Has w fb s) : Calls Tryz.prog 18 #[.pointer (some ⟨fb, 0, none⟩), .string nm] w fun e w' => e = .returned (.tuple #[.string (B (reads s nm.data.toList).1), .int .i64 (reads s nm.data.toList).2]) ∧ w = w' := by
  obtain ⟨F, mb, D, G, dp, h⟩ := h
  exact read_is nm w hn h
theorem size_has (h : Has w fb s) : Calls Tryz.prog 51 #[.pointer (some ⟨fb, 0, none⟩)] w fun e w' => e = .returned (.int .i64 (total s.files)) ∧ Below w.heap.size w w' := by
  obtain ⟨F, mb, D, G, dp, h⟩ := h
  exact size_is w h
theorem names_has (h : Has w fb s) : Calls Tryz.prog 45 #[.pointer (some ⟨fb, 0, none⟩)] w (Tells w s.files.length (strV (namesOf s.files))) := by
  obtain ⟨F, mb, D, G, dp, h⟩ := h
  exact (names_list w h).mono fun e w' ⟨A, c, he, h1, h2, _, h3, h4⟩ => ⟨A, c, he, h1, h2, h3, h4⟩
theorem uns_has (h : Has w fb s) : Calls Tryz.prog 49 #[.pointer (some ⟨fb, 0, none⟩)] w (Tells w s.files.length (iv (airOf s.files))) := by
  obtain ⟨F, mb, D, G, dp, h⟩ := h
  exact (uns_is w h).mono fun e w' ⟨v, he, hr, hB⟩ => by
    obtain ⟨A, c, rfl, h1, h2⟩ := own_form2 hr
    exact ⟨A, c, he, h1, h2, LRd.of_own hr, hB⟩
theorem Tells.len {len : Nat} {xs ys : List Value} {e : Ending} {m : Nat} (h : Tells w len xs e w') (h1 : len = m) (h2 : xs = ys) : Tells w m ys e w' := by subst h1 h2; exact h

/-- A call, where a system has gone already. -/
theorem gone_pass {k : FuncId} {args : Array Value} {r : Ending} (hW : Went F fb s wb w) (H : ∀ F', IsFs w fb s F' → (∀ b, F' b → F b ∨ wb.heap.size ≤ b) → Calls Tryz.prog k args w fun e w' => e = r ∧ Went F' fb s' w w') :
    Calls Tryz.prog k args w fun e w' => e = r ∧ Went F fb s' wb w' := by
  obtain ⟨hT, F', h1, h2⟩ := hW
  exact (H F' h2 h1).mono fun e w' ⟨he, h⟩ => ⟨he, Wentz.trans hT h1 h⟩
theorem Wentz.move (hW : Went F fb s wb w) (hB : Below w.heap.size w w') : Went F fb s wb w' := by
  obtain ⟨hT, F', h1, h2⟩ := hW
  exact ⟨hT.then_below hB, F', h1, h2.below hB⟩
theorem crash_gone (A : Option Addr) (c lo hi : Nat) (ks : List Int) (hkl : ks.length ≤ 9223372036854775807) (hk : LRd w lo hi A (iv ks)) (hF : ∀ b, F b ∨ wb.heap.size ≤ b → b < lo ∨ hi ≤ b) (hW : Went F fb s wb w) :
    Calls Tryz.prog 38 #[.pointer (some ⟨fb, 0, none⟩), .slice A ks.length c] w fun e w' => e = .returned (.int .i64 (sCrash s ks).1) ∧ Went F fb (sCrash s ks).2 wb w' :=
  gone_pass hW fun F' h h1 => crash_is A c lo hi ks w hkl hk (fun b hb => hF b (h1 b hb)) h
theorem start_gone (hs : s.starts ≤ 1000000) (hW : Went F fb s wb w) :
    Calls Tryz.prog 39 #[.pointer (some ⟨fb, 0, none⟩)] w fun e w' => e = .returned (.int .i64 (sStart s).1) ∧ Went F fb (sStart s).2 wb w' :=
  gone_pass hW fun F' h h1 => start_is w hs h
theorem with_gone (d : Dt) (lo hi : Nat) (hd : d.Ok) (hk : LRd w lo hi d.kA (iv d.k)) (hF : ∀ b, F b ∨ wb.heap.size ≤ b → b < lo ∨ hi ≤ b) (hs : s.starts ≤ 1000000) (hW : Went F fb s wb w) :
    Calls Tryz.prog 13 #[.pointer (some ⟨fb, 0, none⟩), d.val] w fun e w' => e = .returned (.int .i64 (step s d).1) ∧ Went F fb (step s d).2 wb w' :=
  gone_pass hW fun F' h h1 => with_is d lo hi w hd hk (fun b hb => hF b (h1 b hb)) hs h
theorem LRd.went {lo hi : Nat} {A : Option Addr} {xs : List Value} (h : LRd w lo hi A xs) (hW : Went F fb s w w') (hF : ∀ b, F b → b < lo ∨ hi ≤ b) : LRd w' lo hi A xs := h.turned hW.1 hF
theorem Wentz.below {n : Nat} (hW : Went F fb s wb w) (hn : n ≤ wb.heap.size) (hF : ∀ b, F b → n ≤ b) : Below n wb w := hW.1.below hn hF
theorem same_yes (A1 A2 : Option Addr) (c d k lo hi lo2 hi2 : Nat) (xs : List (List UInt8)) (w : World) (hk : k = xs.length) (hb1 : k ≤ 100000) (hh1 : hi ≤ w.heap.size) (hh2 : hi2 ≤ w.heap.size) (h1 : LRd w lo hi A1 (strV xs)) (h2 : LRd w lo2 hi2 A2 (strV xs)) :
    Calls Tryz.prog 46 #[.slice A1 k c, .slice A2 k d] w fun e w' => e = .returned (.bool true) ∧ Below w.heap.size w w' :=
  (same_l A1 A2 c d k k lo hi lo2 hi2 xs xs w hk hk hb1 hb1 hh1 hh2 h1 h2).mono fun e w' ⟨he, hB⟩ => ⟨by rw [he]; simp, hB⟩
theorem front_slice (s : ByteArray) (k : Nat) (hle : k ≤ s.size) (W : World) : (Instr.slice 9 (.string s) none (some (.int .i64 (k : Int))) none).run Tryz.prog W = .ok (.string (B (s.data.toList.take k))) W := by
  have e : s.extract 0 ((k : Int)).toNat = B (s.data.toList.take k) := by
    apply ByteArray.ext
    simp [B, ByteArray.data_extract, Array.toList_extract]
    apply Array.ext'
    simp [Array.toList_extract]
  rw [run_slice_string_h (P := Tryz.prog) W 9 s Tryz.underlying9 .i64 (k : Int) (by omega) (by omega), e]
theorem Dos.new (w : World) (ds : List Dt) (t : TypeId) (hok : ∀ d ∈ ds, d.Ok) (hno : ∀ d ∈ ds, d.k = []) : Dos (w.alloc (.cells (flat ds).toArray t)) (w.heap.size + 1) (some ⟨w.heap.size, 0, none⟩) ds :=
  ⟨(LRd.alloc w (flat ds) t).more (Nat.zero_le _) (Nat.le_refl _), fun d hd h0 => absurd h0 (by rw [hno d hd]; decide), hok⟩
end
end Go.Proofs.YtlbhegicapggeaaGreat.fil
