/- Files, the laws: a file system that was made since then. -/
import Derived.Test.YtlbhegicapggeaaFilEx
namespace Go.Proofs.Ytlbhegicapggeaa.fil
open Go.RowKit Go.Lib Go.Maps Go.WideMaps
set_option linter.unusedVariables false
set_option linter.unusedSimpArgs false
set_option linter.unnecessarySimpa false
set_option linter.unusedSectionVars false

/-- What lies below block n is as it was at w0, and a file system lies above. -/
structure Run (n : Nat) (w0 : World) (fb : Nat) (s : St) (w : World) : Prop where
  below : Below n w0 w
  room : n ≤ w0.heap.size
  is : ∃ F, (∀ b, F b → n ≤ b) ∧ IsFs w fb s F

section
variable {n fb : Nat} {w0 w w' : World} {s s' : St} {F : Nat → Prop}
theorem Run.size (h : Run n w0 fb s w) : n ≤ w.heap.size := Nat.le_trans h.room h.below.size
theorem Run.ok (h : Run n w0 fb s w) : Ok s := by obtain ⟨F, _, hF⟩ := h.is; exact hF.ok
theorem Run.move (h : Run n w0 fb s w) (hB : Below w.heap.size w w') : Run n w0 fb s w' := by
  obtain ⟨F, h1, h2⟩ := h.is
  exact ⟨h.below.trans (hB.mono h.size), h.room, F, h1, h2.below hB⟩
theorem Run.went (hb : Below n w0 w) (hr : n ≤ w0.heap.size) (hF : ∀ b, F b → n ≤ b) (hW : Went F fb s' w w') : Run n w0 fb s' w' := by
  obtain ⟨hT, F', h1, h2⟩ := hW
  have hs := hb.size
  refine ⟨hb.trans (hT.below (by omega) hF), hr, F', fun b hb => ?_, h2⟩
  rcases h1 b hb with h | h
  · exact hF b h
  · omega
theorem new_run (m : Nat) (w : World) (h1 : 1 ≤ m) (h2 : m ≤ 1048576) :
    Calls Try.prog 7 #[.int .i64 m] w fun e w' => e = .returned (.tuple #[.pointer (some ⟨w.heap.size + 1, 0, none⟩), .int .i64 0]) ∧ Run w.heap.size w (w.heap.size + 1) (sNew m) w' :=
  (new_is m w h1 h2).mono fun e w' ⟨he, hB, hI⟩ => ⟨he, hB, Nat.le_refl _, _, fun b hb => hb.1, hI⟩
theorem crash_run (A : Option Addr) (c : Nat) (ks : List Int) (hkl : ks.length ≤ 9223372036854775807) (hk : LRd w 0 n A (iv ks)) (h : Run n w0 fb s w) :
    Calls Try.prog 8 #[.pointer (some ⟨fb, 0, none⟩), .slice A ks.length c] w fun e w' => e = .returned (.int .i64 (sCrash s ks).1) ∧ Run n w0 fb (sCrash s ks).2 w' := by
  obtain ⟨F, h1, h2⟩ := h.is
  exact (crash_is A c 0 n ks w hkl hk (fun b hb => .inr (h1 b hb)) h2).mono fun e w' ⟨he, hW⟩ => ⟨he, Run.went h.below h.room h1 hW⟩
theorem fail_run (A : Option Addr) (c : Nat) (m : Int) (ks : List Int) (hkc : ks.length ≤ c) (hcm : c ≤ 9223372036854775807) (hnm : m ≤ 9223372036854775807) (hk : LRd w 0 n A (iv ks)) (h : Run n w0 fb s w) :
    Calls Try.prog 14 #[.pointer (some ⟨fb, 0, none⟩), .int .i64 m, .slice A ks.length c] w fun e w' => e = .returned (.int .i64 (sFail s m ks).1) ∧ Run n w0 fb (sFail s m ks).2 w' := by
  obtain ⟨F, h1, h2⟩ := h.is
  exact (fail_is A c 0 n m ks w hkc hcm hnm hk h2).mono fun e w' ⟨he, hW⟩ => ⟨he, Run.went h.below h.room h1 hW⟩
theorem start_run (hs : s.starts ≤ 1000000) (h : Run n w0 fb s w) :
    Calls Try.prog 16 #[.pointer (some ⟨fb, 0, none⟩)] w fun e w' => e = .returned (.int .i64 (sStart s).1) ∧ Run n w0 fb (sStart s).2 w' := by
  obtain ⟨F, h1, h2⟩ := h.is
  exact (start_is w hs h2).mono fun e w' ⟨he, hW⟩ => ⟨he, Run.went h.below h.room h1 hW⟩
theorem append_run (nm t : ByteArray) (hn : nm.size ≤ maxLen) (ht : t.size ≤ maxLen) (h : Run n w0 fb s w) :
    Calls Try.prog 27 #[.pointer (some ⟨fb, 0, none⟩), .string nm, .string t] w fun e w' => e = .returned (.int .i64 (sAppend s nm.data.toList t.data.toList).1) ∧ Run n w0 fb (sAppend s nm.data.toList t.data.toList).2 w' := by
  obtain ⟨F, h1, h2⟩ := h.is
  exact (append_is nm t w hn ht h2).mono fun e w' ⟨he, hW⟩ => ⟨he, Run.went h.below h.room h1 hW⟩
theorem sync_run (nm : ByteArray) (hn : nm.size ≤ maxLen) (h : Run n w0 fb s w) :
    Calls Try.prog 29 #[.pointer (some ⟨fb, 0, none⟩), .string nm] w fun e w' => e = .returned (.int .i64 (sSync s nm.data.toList).1) ∧ Run n w0 fb (sSync s nm.data.toList).2 w' := by
  obtain ⟨F, h1, h2⟩ := h.is
  exact (sync_is nm w hn h2).mono fun e w' ⟨he, hW⟩ => ⟨he, Run.went h.below h.room h1 hW⟩
theorem rename_run (nm t : ByteArray) (hn : nm.size ≤ maxLen) (ht : t.size ≤ maxLen) (h : Run n w0 fb s w) :
    Calls Try.prog 31 #[.pointer (some ⟨fb, 0, none⟩), .string nm, .string t] w fun e w' => e = .returned (.int .i64 (sRename s nm.data.toList t.data.toList).1) ∧ Run n w0 fb (sRename s nm.data.toList t.data.toList).2 w' := by
  obtain ⟨F, h1, h2⟩ := h.is
  exact (rename_is nm t w hn ht h2).mono fun e w' ⟨he, hW⟩ => ⟨he, Run.went h.below h.room h1 hW⟩

/-- Calls that only tell. -/
theorem up_run (h : Run n w0 fb s w) : Calls Try.prog 15 #[.pointer (some ⟨fb, 0, none⟩)] w fun e w' => e = .returned (.bool (!s.off)) ∧ w = w' := by
  obtain ⟨F, _, mb, D, G, dp, h⟩ := h.is
  exact up_is w h
theorem read_run (nm : ByteArray) (hn : nm.size ≤ maxLen) (h : Run n w0 fb s w) : Calls Try.prog 22 #[.pointer (some ⟨fb, 0, none⟩), .string nm] w fun e w' => e = .returned (.tuple #[.string (B (reads s nm.data.toList).1), .int .i64 (reads s nm.data.toList).2]) ∧ w = w' := by
  obtain ⟨F, _, mb, D, G, dp, h⟩ := h.is
  exact read_is nm w hn h
theorem size_run (h : Run n w0 fb s w) : Calls Try.prog 56 #[.pointer (some ⟨fb, 0, none⟩)] w fun e w' => e = .returned (.int .i64 (total s.files)) ∧ Below w.heap.size w w' := by
  obtain ⟨F, _, mb, D, G, dp, h⟩ := h.is
  exact size_is w h

/-- A list that a call told, in memory of its own. -/
def Tells (w : World) (len : Nat) (xs : List Value) (e : Ending) (w' : World) : Prop :=
  ∃ A c, e = .returned (.slice A len c) ∧ len ≤ c ∧ c ≤ maxLen ∧ LRd w' w.heap.size w'.heap.size A xs ∧ Below w.heap.size w w'
theorem names_run (h : Run n w0 fb s w) : Calls Try.prog 17 #[.pointer (some ⟨fb, 0, none⟩)] w (Tells w s.files.length (strV (namesOf s.files))) := by
  obtain ⟨F, _, mb, D, G, dp, h⟩ := h.is
  exact (names_list w h).mono fun e w' ⟨A, c, he, h1, h2, _, h3, h4⟩ => ⟨A, c, he, h1, h2, h3, h4⟩
theorem B_inj {a b : List UInt8} (h : B a = B b) : a = b := by
  have := congrArg (fun x => x.data.toList) h
  simpa [list_B] using this
theorem map_B_inj {xs ys : List (List UInt8)} (h : xs.map B = ys.map B) : xs = ys := List.map_inj_right (fun a b => B_inj) |>.1 h
theorem same_l (A1 A2 : Option Addr) (c d k m lo hi lo2 hi2 : Nat) (xs ys : List (List UInt8)) (w : World) (hk : k = xs.length) (hm : m = ys.length) (hb1 : k ≤ 100000) (hb2 : m ≤ 100000) (hh1 : hi ≤ w.heap.size) (hh2 : hi2 ≤ w.heap.size) (h1 : LRd w lo hi A1 (strV xs)) (h2 : LRd w lo2 hi2 A2 (strV ys)) :
    Calls Try.prog 18 #[.slice A1 k c, .slice A2 m d] w fun e w' => e = .returned (.bool (decide (xs = ys))) ∧ Below w.heap.size w w' :=
  (same12 A1 A2 c d w.heap.size k m (xs.map B) (ys.map B) w (by simpa using hk) (by simpa using hm) (by omega) (by omega) (h1.strs hh1) (h2.strs hh2)).mono fun e w' ⟨he, q, hw⟩ => by
    subst hw
    refine ⟨he.trans ?_, below_drewN (Below.refl _ w) _⟩
    by_cases h : xs = ys
    · subst h; simp
    · rw [decide_eq_false h, decide_eq_false]; exact fun e => h (map_B_inj e)
/-- A list that stands in a block by itself. -/
theorem LRd.alloc (w : World) (xs : List Value) (t : TypeId) : LRd (w.alloc (.cells xs.toArray t)) w.heap.size (w.heap.size + 1) (some ⟨w.heap.size, 0, none⟩) xs := fun _ =>
  ⟨w.heap.size, 0, rfl, Nat.le_refl _, by omega, fun j u hj => by
    have hlt : j < xs.length := (List.getElem?_eq_some_iff.1 hj).1
    rw [cell_of_row _ _ _ _ _ _ (heap_alloc_new w (.cells xs.toArray t))]
    simpa using hj⟩
end
end Go.Proofs.Ytlbhegicapggeaa.fil
