/- Files, the laws: calls at a system that was told of; what stays beside it. -/
import Derived.Test.YtlbhegicapggeaaFilAfter
namespace Go.Proofs.Ytlbhegicapggeaa.fil
open Go.RowKit Go.Lib Go.Maps Go.WideMaps
set_option linter.unusedVariables false
set_option linter.unusedSimpArgs false
set_option linter.unnecessarySimpa false
set_option linter.unusedSectionVars false

section
variable {fb : Nat} {w w' wb : World} {s s' : St} {F : Nat → Prop}
/-- A file system stands there. -/
def Has (w : World) (fb : Nat) (s : St) : Prop := ∃ F, IsFs w fb s F
theorem Has.move (h : Has w fb s) (hB : Below w.heap.size w w') : Has w' fb s := by obtain ⟨F, h⟩ := h; exact ⟨F, h.below hB⟩
theorem Run.has {n : Nat} {w0 : World} (h : Run n w0 fb s w) : Has w fb s := by obtain ⟨F, _, h⟩ := h.is; exact ⟨F, h⟩
theorem Wentz.has (h : Went F fb s wb w) : Has w fb s := by obtain ⟨_, F', _, h⟩ := h; exact ⟨F', h⟩
theorem Has.ok (h : Has w fb s) : Ok s := by obtain ⟨F, h⟩ := h; exact h.ok
theorem up_has (h : Has w fb s) : Calls Try.prog 15 #[.pointer (some ⟨fb, 0, none⟩)] w fun e w' => e = .returned (.bool (!s.off)) ∧ w = w' := by
  obtain ⟨F, mb, D, G, dp, h⟩ := h
  exact up_is w h
theorem read_has (nm : ByteArray) (hn : nm.size ≤ maxLen) (h : Has w fb s) : Calls Try.prog 22 #[.pointer (some ⟨fb, 0, none⟩), .string nm] w fun e w' => e = .returned (.tuple #[.string (B (reads s nm.data.toList).1), .int .i64 (reads s nm.data.toList).2]) ∧ w = w' := by
  obtain ⟨F, mb, D, G, dp, h⟩ := h
  exact read_is nm w hn h
theorem size_has (h : Has w fb s) : Calls Try.prog 56 #[.pointer (some ⟨fb, 0, none⟩)] w fun e w' => e = .returned (.int .i64 (total s.files)) ∧ Below w.heap.size w w' := by
  obtain ⟨F, mb, D, G, dp, h⟩ := h
  exact size_is w h
theorem names_has (h : Has w fb s) : Calls Try.prog 17 #[.pointer (some ⟨fb, 0, none⟩)] w (Tells w s.files.length (strV (namesOf s.files))) := by
  obtain ⟨F, mb, D, G, dp, h⟩ := h
  exact (names_list w h).mono fun e w' ⟨A, c, he, h1, h2, _, h3, h4⟩ => ⟨A, c, he, h1, h2, h3, h4⟩
theorem Tells.len {len : Nat} {xs ys : List Value} {e : Ending} {m : Nat} (h : Tells w len xs e w') (h1 : len = m) (h2 : xs = ys) : Tells w m ys e w' := by subst h1 h2; exact h

/-- A call, where a system has gone already. -/
theorem gone_pass {k : FuncId} {args : Array Value} {r : Ending} (hW : Went F fb s wb w) (H : ∀ F', IsFs w fb s F' → (∀ b, F' b → F b ∨ wb.heap.size ≤ b) → Calls Try.prog k args w fun e w' => e = r ∧ Went F' fb s' w w') :
    Calls Try.prog k args w fun e w' => e = r ∧ Went F fb s' wb w' := by
  obtain ⟨hT, F', h1, h2⟩ := hW
  exact (H F' h2 h1).mono fun e w' ⟨he, h⟩ => ⟨he, Wentz.trans hT h1 h⟩
theorem Wentz.move (hW : Went F fb s wb w) (hB : Below w.heap.size w w') : Went F fb s wb w' := by
  obtain ⟨hT, F', h1, h2⟩ := hW
  exact ⟨hT.then_below hB, F', h1, h2.below hB⟩
theorem crash_gone (A : Option Addr) (c lo hi : Nat) (ks : List Int) (hkl : ks.length ≤ 9223372036854775807) (hk : LRd w lo hi A (iv ks)) (hF : ∀ b, F b ∨ wb.heap.size ≤ b → b < lo ∨ hi ≤ b) (hW : Went F fb s wb w) :
    Calls Try.prog 8 #[.pointer (some ⟨fb, 0, none⟩), .slice A ks.length c] w fun e w' => e = .returned (.int .i64 (sCrash s ks).1) ∧ Went F fb (sCrash s ks).2 wb w' :=
  gone_pass hW fun F' h h1 => crash_is A c lo hi ks w hkl hk (fun b hb => hF b (h1 b hb)) h
theorem start_gone (hs : s.starts ≤ 1000000) (hW : Went F fb s wb w) :
    Calls Try.prog 16 #[.pointer (some ⟨fb, 0, none⟩)] w fun e w' => e = .returned (.int .i64 (sStart s).1) ∧ Went F fb (sStart s).2 wb w' :=
  gone_pass hW fun F' h h1 => start_is w hs h
theorem LRd.went {lo hi : Nat} {A : Option Addr} {xs : List Value} (h : LRd w lo hi A xs) (hW : Went F fb s w w') (hF : ∀ b, F b → b < lo ∨ hi ≤ b) : LRd w' lo hi A xs := h.turned hW.1 hF
theorem Wentz.below {n : Nat} (hW : Went F fb s wb w) (hn : n ≤ wb.heap.size) (hF : ∀ b, F b → n ≤ b) : Below n wb w := hW.1.below hn hF
theorem same_yes (A1 A2 : Option Addr) (c d k lo hi lo2 hi2 : Nat) (xs : List (List UInt8)) (w : World) (hk : k = xs.length) (hb1 : k ≤ 100000) (hh1 : hi ≤ w.heap.size) (hh2 : hi2 ≤ w.heap.size) (h1 : LRd w lo hi A1 (strV xs)) (h2 : LRd w lo2 hi2 A2 (strV xs)) :
    Calls Try.prog 18 #[.slice A1 k c, .slice A2 k d] w fun e w' => e = .returned (.bool true) ∧ Below w.heap.size w w' :=
  (same_l A1 A2 c d k k lo hi lo2 hi2 xs xs w hk hk hb1 hb1 hh1 hh2 h1 h2).mono fun e w' ⟨he, hB⟩ => ⟨by rw [he]; simp, hB⟩
theorem front_slice (s : ByteArray) (k : Nat) (hle : k ≤ s.size) (W : World) : (Instr.slice 9 (.string s) none (some (.int .i64 (k : Int))) none).run Try.prog W = .ok (.string (B (s.data.toList.take k))) W := by
  have e : s.extract 0 ((k : Int)).toNat = B (s.data.toList.take k) := by
    apply ByteArray.ext
    simp [B, ByteArray.data_extract, Array.toList_extract]
    apply Array.ext'
    simp [Array.toList_extract]
  rw [run_slice_string_h (P := Try.prog) W 9 s Try.underlying9 .i64 (k : Int) (by omega) (by omega), e]
theorem Dos.new (w : World) (ds : List Dt) (t : TypeId) (hok : ∀ d ∈ ds, d.Ok) (hno : ∀ d ∈ ds, d.k = []) : Dos (w.alloc (.cells (flat ds).toArray t)) (w.heap.size + 1) (some ⟨w.heap.size, 0, none⟩) ds :=
  ⟨(LRd.alloc w (flat ds) t).more (Nat.zero_le _) (Nat.le_refl _), fun d hd h0 => absurd h0 (by rw [hno d hd]; decide), hok⟩
end
end Go.Proofs.Ytlbhegicapggeaa.fil
