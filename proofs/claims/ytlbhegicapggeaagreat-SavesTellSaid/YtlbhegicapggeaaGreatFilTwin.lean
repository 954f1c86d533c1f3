/- Files: the program's system beside the document's; how much is gone through. -/
import Derived.Test.YtlbhegicapggeaaGreatFilRefOne
import Derived.Test.YtlbhegicapggeaaGreatFilCrash
namespace Go.Proofs.YtlbhegicapggeaaGreat.fil
open Go.RowKit Go.Lib Go.Maps Go.WideMaps
set_option linter.unusedVariables false
set_option linter.unusedSimpArgs false
set_option linter.unnecessarySimpa false
set_option linter.unusedSectionVars false

/-- What Much says: yes; or no, and it is not; the texts' lengths too. -/
def MuchSays2 (ds : List Dt) (w : World) (e : Ending) (w' : World) : Prop :=
  (e = .returned (.bool true) ∨ (e = .returned (.bool false) ∧ ds.length ≤ 120 ∧ ∀ d ∈ ds, d.k.length ≤ 60 ∧ d.t.size ≤ 60000)) ∧ Below w.heap.size w w'

set_option maxHeartbeats 2000000 in
set_option maxRecDepth 100000 in
theorem much2_is (A : Option Addr) (c n hi : Nat) (ds : List Dt) (w : World) (hn : n = ds.length) (hnm : n ≤ 9223372036854775807) (hhi : hi ≤ w.heap.size) (h : Dos w hi A ds) :
    Calls Tryz.prog 4 #[.slice A n c] w (MuchSays2 ds w) := by
  have HN := Lib.hid hn
  have HD := Lib.hid h
  clear hn h
  go_enter Tryz.func4, Tryz.ntmps4
  go_wp2
  go_loopg [3, 4] n (fun g s3 s4 wr => ∃ (i : Nat) (z : Int), s4 = .int .i64 i ∧ s3 = .int .i64 z ∧ 0 ≤ z ∧ z ≤ 50000 ∧ i ≤ n ∧ n - i ≤ g ∧ Below w.heap.size w wr ∧ Hid (∀ d ∈ ds.take i, d.k.length ≤ 60 ∧ d.t.size ≤ 60000))
  case atStart => exact ⟨0, 50000, rfl, rfl, by omega, by omega, Nat.zero_le _, by omega, Below.refl _ _, Lib.hid (by simp)⟩
  case round =>
    obtain ⟨i, z, rfl, rfl, hz0, hz1, hi', hg, hB, HK⟩ := hrel
    have hsz := hB.size
    by_cases hlt : i < n
    · obtain ⟨d, hd⟩ : ∃ d, ds[i]? = some d := ⟨ds[i]'(by rw [← HN.out]; exact hlt), List.getElem?_eq_getElem _⟩
      obtain ⟨b, off, rfl, hb, g0, g1, g2, g3, g4, g5⟩ := (HD.out.belowN (hB.mono hhi)).at hd
      have hok := HD.out.ok d (List.mem_of_getElem? hd)
      have b1 : d.a.size ≤ 9223372036854775807 := by have := hok.a; unfold maxLen at this; omega
      have b2 : d.b.size ≤ 9223372036854775807 := by have := hok.b; unfold maxLen at this; omega
      have b3 : d.t.size ≤ 9223372036854775807 := by have := hok.t; unfold maxLen at this; omega
      have b4 : d.k.length ≤ 9223372036854775807 := by have := hok.k; have := hok.kc; unfold maxLen at this; omega
      have HT : Hid (d.k.length ≤ 60 → d.t.size ≤ 60000 → ∀ d ∈ ds.take (i + 1), d.k.length ≤ 60 ∧ d.t.size ≤ 60000) := Lib.hid fun hk hk2 d' hd' => by
        rw [List.take_add_one, hd] at hd'
        rcases List.mem_append.1 hd' with h | h
        · exact HK.out d' h
        · simp at h; rw [h]; exact ⟨hk, hk2⟩
      clear hok hd
      generalize d.a = xa at *
      generalize d.b = xb at *
      generalize d.t = xt at *
      go_wp2
      all_goals first
        | (go_ret; exact ⟨.inl rfl, hB.alloc hsz _⟩)
        | (go_roundg (n - (i + 1))
           case measure => omega
           case rel => exact ⟨i + 1, z - min (xt.size : Int) 60000, by go_num, rfl, by omega, by omega, by omega, by omega, hB.alloc hsz _, Lib.hid (HT.out (by omega) (by omega))⟩)
    · obtain rfl : i = n := by omega
      have e : ds.take i = ds := List.take_of_length_le (by rw [← HN.out]; exact Nat.le_refl _)
      by_cases h120 : i ≤ 120
      · have hd : decide ((120 : Int) < (i : Int)) = false := by simp; omega
        go_wp2
        go_ret
        exact ⟨.inr ⟨rfl, by rw [← HN.out]; exact h120, by have := HK.out; rw [e] at this; exact this⟩, hB⟩
      · have hd : decide ((120 : Int) < (i : Int)) = true := by simp; omega
        go_wp2
        go_ret
        exact ⟨.inl rfl, hB⟩

/-- The program's system and the document's, of blocks apart; what is none of theirs is as it was at wb. -/
def DuoR (F0 G0 : Nat → Prop) (wb : World) (fb rb : Nat) (s t : St) (w : World) : Prop :=
  Turned (fun b => F0 b ∨ G0 b) wb w ∧ ∃ F G, (∀ b, F b → F0 b ∨ wb.heap.size ≤ b) ∧ (∀ b, G b → G0 b ∨ wb.heap.size ≤ b) ∧ (∀ b, F b → ¬ G b) ∧ IsFs w fb s F ∧ RIs w rb t G
section
variable {F0 G0 : Nat → Prop} {wb w w' : World} {fb rb : Nat} {s s' t t' : St}
theorem DuoR.start (hF : IsFs w fb s F0) (hG : RIs w rb t G0) (hd : ∀ b, F0 b → ¬ G0 b) : DuoR F0 G0 w fb rb s t w :=
  ⟨.refl _ _, F0, G0, fun _ h => .inl h, fun _ h => .inl h, hd, hF, hG⟩
theorem DuoR.move (h : DuoR F0 G0 wb fb rb s t w) (hB : Below w.heap.size w w') : DuoR F0 G0 wb fb rb s t w' := by
  obtain ⟨hT, F, G, h1, h2, h3, h4, h5⟩ := h
  exact ⟨hT.then_below hB, F, G, h1, h2, h3, h4.below hB, h5.below hB⟩
theorem with_duoR (d : Dt) (lo hi : Nat) (hd : d.Ok) (hk : LRd w lo hi d.kA (iv d.k)) (hF : ∀ b, F0 b ∨ wb.heap.size ≤ b → b < lo ∨ hi ≤ b) (hs : s.starts ≤ 1000000) (h : DuoR F0 G0 wb fb rb s t w) :
    Calls Tryz.prog 13 #[.pointer (some ⟨fb, 0, none⟩), d.val] w fun e w' => e = .returned (.int .i64 (step s d).1) ∧ DuoR F0 G0 wb fb rb (step s d).2 t w' := by
  obtain ⟨hT, F, G, h1, h2, h3, h4, h5⟩ := h
  refine (with_is d lo hi w hd hk (fun b hb => hF b (h1 b hb)) hs h4).mono ?_
  rintro e w' ⟨he, hT', F', k1, k2⟩
  have hz := hT.size
  refine ⟨he, hT.trans hT' (fun i hi => (h1 i hi).imp .inl id), F', G, fun b hb => ?_, h2, fun b hb hg => ?_, k2, h5.apart hT' fun b hg hf => h3 b hf hg⟩
  · rcases k1 b hb with h | h
    · exact h1 b h
    · exact .inr (by omega)
  · rcases k1 b hb with h | h
    · exact h3 b h hg
    · have := h5.lt b hg; omega
theorem by_duoR (d : Dt) (lo hi : Nat) (hd : d.Ok) (hk : LRd w lo hi d.kA (iv d.k)) (hG : ∀ b, G0 b ∨ wb.heap.size ≤ b → b < lo ∨ hi ≤ b) (hs : t.starts ≤ 1000000) (htm : d.t.size ≤ 1000000) (hkm : d.k.length ≤ 1000000) (hnil : d.kA = none → d.kc = 0) (h : DuoR F0 G0 wb fb rb s t w) :
    Calls Tryz.prog 14 #[.pointer (some ⟨rb, 0, none⟩), d.val] w fun e w' => e = .returned (.int .i64 (step t d).1) ∧ DuoR F0 G0 wb fb rb s (step t d).2 w' := by
  obtain ⟨hT, F, G, h1, h2, h3, h4, h5⟩ := h
  refine (by_is d lo hi w hd hk (fun b hb => hG b (h2 b hb)) hs htm hkm hnil h5).mono ?_
  rintro e w' ⟨he, hT', G', k1, k2⟩
  have hz := hT.size
  refine ⟨he, hT.trans hT' (fun i hi => (h2 i hi).imp .inr id), F, G', h1, fun b hb => ?_, fun b hf hg => ?_, h4.apart hT' fun b hf hg => h3 b hf hg, k2⟩
  · rcases k1 b hb with h | h
    · exact h2 b h
    · exact .inr (by omega)
  · rcases k1 b hg with h | h
    · exact h3 b hf h
    · have := h4.lt b hf; omega
theorem DuoR.at {g : Nat} {ty : TypeId} {cs : Array Value} (h : DuoR F0 G0 wb fb rb s t w) (hA : At wb g ty cs) (hn : ¬ (F0 g ∨ G0 g)) : At w g ty cs := h.1.at hA hn
theorem one_duoR (h : DuoR F0 G0 wb fb rb s s w) :
    Calls Tryz.prog 15 #[.pointer (some ⟨fb, 0, none⟩), .pointer (some ⟨rb, 0, none⟩)] w fun e w' => e = .returned (.bool true) ∧ DuoR F0 G0 wb fb rb s s w' ∧ Below w.heap.size w w' := by
  obtain ⟨hT, F, G, h1, h2, h3, h4, h5⟩ := h
  exact (one_is w h4 h5).mono fun e w' ⟨he, hB⟩ => ⟨he, DuoR.move ⟨hT, F, G, h1, h2, h3, h4, h5⟩ hB, hB⟩

/-- Two systems above block n. -/
def BothR (n : Nat) (w0 : World) (fb rb : Nat) (s : St) (w : World) : Prop :=
  Below n w0 w ∧ ∃ F G, (∀ b, F b → n ≤ b) ∧ (∀ b, G b → n ≤ b) ∧ (∀ b, F b → ¬ G b) ∧ IsFs w fb s F ∧ RIs w rb s G
end

theorem step_starts_le (s : St) (d : Dt) : (step s d).2.starts ≤ s.starts + 1 := step_starts s d
end Go.Proofs.YtlbhegicapggeaaGreat.fil
