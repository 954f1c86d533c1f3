/- LogsNone, walked. -/
import Derived.Test.YtmknbakfjhjfmaaGreatDoorWords
import Derived.Lib.Strings
import Derived.Lib.Walk
import Derived.Lib.Hide
import Derived.Test.YtmknbakfjhjfmaaGreatDoorPceDoes
import Derived.Test.YtmknbakfjhjfmaaGreatDoorLgsRec
/-! Logs, the laws: two lists of the same texts are the same lines. -/
namespace Go.Proofs.YtmknbakfjhjfmaaGreatDoor.lgs
open Go.RowKit Go.Lib
set_option linter.unusedVariables false
set_option linter.unusedSimpArgs false

theorem same_lines (A1 A2 : Option Addr) (c d n₀ n m : Nat) (xs : List ByteArray) (w : World) (hn : n = xs.length) (hm : m = xs.length) (hb1 : n ≤ 9223372036854775807) (h1 : SRd w n₀ A1 xs) (h2 : SRd w n₀ A2 xs) :
    Calls Tryz.prog 15 #[.slice A1 n c, .slice A2 m d] w fun e w' => e = .returned (.bool true) ∧ ∃ q, w' = w.drewN q := by
  obtain rfl : m = n := hm.trans hn.symm
  have H1 := Lib.hid hn
  clear hn hm
  go_enter Tryz.func15, Tryz.ntmps15
  go_wp2
  go_loopg [5] m (fun g s13 wr => ∃ k q : Nat, k ≤ m ∧ m - k ≤ g ∧ s13 = .int .i64 k ∧ wr = w.drewN q)
  case atStart => exact ⟨0, 0, Nat.zero_le _, by omega, rfl, rfl⟩
  case round =>
    obtain ⟨k, q, hk, hg, rfl, rfl⟩ := hrel
    by_cases hlt : k < m
    · obtain ⟨p1, o1, rfl, _, hc1⟩ := h1 (by rw [← H1.out]; omega)
      obtain ⟨p2, o2, rfl, _, hc2⟩ := h2 (by rw [← H1.out]; omega)
      have g1 : w.cell? ⟨p1, o1 + k, none⟩ = some (.string (xs.getD k ByteArray.empty)) := hc1 k (by rw [← H1.out]; omega)
      have g2 : w.cell? ⟨p2, o2 + k, none⟩ = some (.string (xs.getD k ByteArray.empty)) := hc2 k (by rw [← H1.out]; omega)
      clear hc1 hc2 h1 h2
      generalize xs.getD k ByteArray.empty = x at g1 g2
      go_wp2_with fail
      go_region
      go_wp2
      go_roundg (m - (k + 1))
      case measure => omega
      case rel => exact ⟨k + 1, q + 1, by omega, by omega, by go_num, rfl⟩
    · go_wp2
      go_ret
      exact ⟨rfl, q, rfl⟩
end Go.Proofs.YtmknbakfjhjfmaaGreatDoor.lgs

/-! Logs, the laws: what is more than is looked at. -/
namespace Go.Proofs.YtmknbakfjhjfmaaGreatDoor.lgs
open Go.RowKit Go.Lib Go.Proofs.YtmknbakfjhjfmaaGreatDoor.pce
set_option linter.unusedVariables false
set_option linter.unusedSimpArgs false
set_option linter.unnecessarySimpa false
set_option linter.unusedSectionVars false

/-- Yes; or no, and they are few. -/
def BeyondSays (ts : List Ct) (many : Nat) (w : World) (e : Ending) (w' : World) : Prop :=
  (e = .returned (.bool true) ∨ (e = .returned (.bool false) ∧ ts.length ≤ many ∧ ∀ t ∈ ts, t.ins.length ≤ 100)) ∧ w = w'
set_option maxHeartbeats 2000000 in
set_option maxRecDepth 100000 in
theorem beyond_is (w : World) (F : Nat → Prop) (A : Option Addr) (n c : Nat) (ts : List Ct) (many : Nat) (hmany : many ≤ 1000) (hn : n = ts.length) (hb : n ≤ maxLen) (h : Cuts w F A ts) :
    Calls Tryz.prog 14 #[.slice A n c, .int .i64 many] w (BeyondSays ts many w) := by
  have HC := Lib.hid h
  have HN := Lib.hid hn
  unfold maxLen at hb
  clear h hn
  by_cases hm : many < n
  · go_enter Tryz.func14, Tryz.ntmps14
    go_wp2
    go_ret
    exact ⟨.inl rfl, rfl⟩
  go_enter Tryz.func14, Tryz.ntmps14
  go_wp2
  go_loopg [5] n (fun g s5 wr => ∃ k : Nat, k ≤ n ∧ n - k ≤ g ∧ s5 = .int .i64 k ∧ wr = w ∧ Hid (∀ t ∈ ts.take k, t.ins.length ≤ 100))
  case atStart => exact ⟨0, Nat.zero_le _, by omega, rfl, rfl, fun t ht => by simp at ht⟩
  case round =>
    obtain ⟨k, hk, hg, rfl, hwr, HE⟩ := hrel
    have hwr := hwr.symm
    subst hwr
    by_cases hlt : k < n
    · obtain ⟨t, ht⟩ : ∃ t, ts[k]? = some t := ⟨_, List.getElem?_eq_getElem (by rw [← HN.out]; exact hlt)⟩
      have HT := Lib.hid ht
      obtain ⟨b, off, rfl, _, _, g2⟩ := HC.out.at ht
      have hfew := (HC.out.each t (List.mem_of_getElem? ht)).few
      unfold maxLen at hfew
      obtain ⟨z, hz⟩ : ∃ z, t.ins.length = z := ⟨_, rfl⟩
      have HZ := Lib.hid hz
      rw [hz] at g2 hfew
      clear ht hz
      by_cases h1 : 100 < z
      · go_wp2
        go_ret
        exact ⟨.inl rfl, rfl⟩
      · go_wp2
        go_roundg (n - (k + 1))
        case measure => omega
        case rel =>
          refine ⟨k + 1, by omega, by omega, by go_num, rfl, fun t' ht' => ?_⟩
          obtain ⟨hkl, hkt⟩ := List.getElem?_eq_some_iff.1 HT.out
          rw [List.take_succ_eq_append_getElem hkl, List.mem_append, hkt] at ht'
          rcases ht' with ht' | ht'
          · exact HE.out t' ht'
          · rw [List.mem_singleton.1 ht', HZ.out]; omega
    · obtain rfl : k = n := by omega
      go_wp2
      go_ret
      exact ⟨.inr ⟨rfl, by rw [← HN.out]; omega, fun t ht => HE.out t (by rw [HN.out, List.take_length]; exact ht)⟩, rfl⟩

/-- Of lines. -/
def LinesSays (zs : List ByteArray) (many : Nat) (w : World) (e : Ending) (w' : World) : Prop :=
  (e = .returned (.bool true) ∨ (e = .returned (.bool false) ∧ zs.length ≤ many ∧ ∀ z ∈ zs, z.size ≤ 300)) ∧ w = w'
set_option maxHeartbeats 2000000 in
set_option maxRecDepth 100000 in
theorem beyondLines_is (w : World) (n₀ : Nat) (A : Option Addr) (n c : Nat) (zs : List ByteArray) (many : Nat) (hmany : many ≤ 1000) (hn : n = zs.length) (hb : n ≤ maxLen) (hz : ∀ z ∈ zs, z.size ≤ maxLen) (h : SRd w n₀ A zs) :
    Calls Tryz.prog 4 #[.slice A n c, .int .i64 many] w (LinesSays zs many w) := by
  have HC := Lib.hid h
  have HN := Lib.hid hn
  have HZ := Lib.hid hz
  unfold maxLen at hb
  clear h hn hz
  by_cases hm : many < n
  · go_enter Tryz.func4, Tryz.ntmps4
    go_wp2
    go_ret
    exact ⟨.inl rfl, rfl⟩
  go_enter Tryz.func4, Tryz.ntmps4
  go_wp2
  go_loopg [5] n (fun g s5 wr => ∃ k : Nat, k ≤ n ∧ n - k ≤ g ∧ s5 = .int .i64 k ∧ wr = w ∧ Hid (∀ z ∈ zs.take k, z.size ≤ 300))
  case atStart => exact ⟨0, Nat.zero_le _, by omega, rfl, rfl, fun t ht => by simp at ht⟩
  case round =>
    obtain ⟨k, hk, hg, rfl, hwr, HE⟩ := hrel
    have hwr := hwr.symm
    subst hwr
    by_cases hlt : k < n
    · obtain ⟨p1, o1, rfl, _, hc1⟩ := HC.out (by rw [← HN.out]; omega)
      have g1 : w.cell? ⟨p1, o1 + k, none⟩ = some (.string (zs.getD k ByteArray.empty)) := hc1 k (by rw [← HN.out]; exact hlt)
      have hkl : k < zs.length := by rw [← HN.out]; exact hlt
      have hx : zs.getD k ByteArray.empty = zs[k] := by simp [List.getD, List.getElem?_eq_getElem hkl]
      have hxm : (zs[k]).size ≤ maxLen := HZ.out _ (List.getElem_mem hkl)
      rw [hx] at g1
      have HT : Hid (zs.take (k + 1) = zs.take k ++ [zs[k]]) := Lib.hid (List.take_succ_eq_append_getElem hkl)
      generalize zs[k] = x at g1 hxm HT
      unfold maxLen at hxm
      clear hc1 hx hkl
      by_cases h1 : 300 < x.size
      · go_wp2
        go_ret
        exact ⟨.inl rfl, rfl⟩
      · go_wp2
        go_roundg (n - (k + 1))
        case measure => omega
        case rel =>
          refine ⟨k + 1, by omega, by omega, by go_num, rfl, fun t' ht' => ?_⟩
          rw [HT.out, List.mem_append] at ht'
          rcases ht' with ht' | ht'
          · exact HE.out t' ht'
          · rw [List.mem_singleton.1 ht']; omega
    · obtain rfl : k = n := by omega
      go_wp2
      go_ret
      exact ⟨.inr ⟨rfl, by rw [← HN.out]; omega, fun t ht => HE.out t (by rw [HN.out, List.take_length]; exact ht)⟩, rfl⟩

set_option maxHeartbeats 4000000 in
set_option maxRecDepth 100000 in
theorem beyond18 (w : World) (b c2 : Nat) (F : Nat → Prop) (A : Option Addr) (n c : Nat) (ts : List Ct) (hn : n = ts.length) (hb : n ≤ maxLen) (h : Cuts w F A ts) (hA : At w b 23 #[.slice A n c]) :
    Calls Tryz.prog 5 #[.slice (some ⟨b, 0, none⟩) 1 c2, .int .i64 1] w fun e w' => (∃ r : Bool, e = .returned (.bool r)) ∧ w = w' := by
  have v0 : w.cell? ⟨b, 0, none⟩ = some (.slice A n c) := hA.cell 0
  have K1 := Lib.hid (beyond_is w F A n c ts 10 (by omega) hn hb h)
  have K2 := Lib.hid (fun (t : Ct) (ht : CtOk w F t) => beyondLines_is w w.heap.size t.A t.ins.length t.c t.ins 100 (by omega) rfl ht.few ht.size ht.lst.srd)
  have HC := Lib.hid h
  have HN := Lib.hid hn
  unfold maxLen at hb
  clear h hn hA
  go_enter Tryz.func5, Tryz.ntmps5
  go_wp2
  refine wp_loop_rounds 2 ?_
  rw [rounds_succ]
  go_wp2_with (go_at_call 14; refine K1.out.mono ?_; rintro e w1 ⟨rfl | ⟨rfl, hm, he⟩, rfl⟩)
  · go_ret
    exact ⟨⟨true, rfl⟩, rfl⟩
  · have HM := Lib.hid (And.intro hm he)
    have hn10 : n ≤ 10 := by rw [HN.out]; exact hm
    clear hm he
    go_loopg [5, 7] n (fun g s5 s7 wr => ∃ k x : Nat, k ≤ n ∧ n - k ≤ g ∧ s5 = .int .i64 x ∧ s7 = .int .i64 k ∧ x ≤ 100 * k ∧ wr = w)
    case atStart => exact ⟨0, 0, Nat.zero_le _, by omega, rfl, rfl, by omega, rfl⟩
    case round =>
      obtain ⟨k, x, hk, hg, rfl, rfl, hx, hwr⟩ := hrel
      have hwr := hwr.symm
      subst hwr
      by_cases hlt : k < n
      · obtain ⟨t, ht⟩ : ∃ t, ts[k]? = some t := ⟨_, List.getElem?_eq_getElem (by rw [← HN.out]; exact hlt)⟩
        obtain ⟨b1, off, rfl, _, _, g2⟩ := HC.out.at ht
        have hz := HM.out.2 t (List.mem_of_getElem? ht)
        have K3 := Lib.hid (K2.out t (HC.out.each t (List.mem_of_getElem? ht)))
        obtain ⟨z, hzz⟩ : ∃ z, t.ins.length = z := ⟨_, rfl⟩
        rw [hzz] at g2 hz K3
        generalize t.A = At at *
        generalize t.c = ct at *
        have hwx : IntKind.i64.wrap ((x : Int) + (z : Int)) = (x : Int) + (z : Int) := IntWalk.i64_in _ (by omega)
        clear ht hzz
        by_cases h5 : (500 : Int) < (x : Int) + (z : Int)
        · have h5' : decide ((500 : Int) < (x : Int) + (z : Int)) = true := by simp; omega
          go_wp2_with (go_at_call 4; refine K3.out.mono ?_; rintro e w1 ⟨rfl | ⟨rfl, hm2, he2⟩, rfl⟩)
          all_goals
            go_ret
            exact ⟨⟨true, rfl⟩, rfl⟩
        · have h5' : decide ((500 : Int) < (x : Int) + (z : Int)) = false := by simp; omega
          go_wp2_with (go_at_call 4; refine K3.out.mono ?_; rintro e w1 ⟨rfl | ⟨rfl, hm2, he2⟩, rfl⟩)
          · go_ret
            exact ⟨⟨true, rfl⟩, rfl⟩
          · go_roundg (n - (k + 1))
            case measure => omega
            case rel => exact ⟨k + 1, x + z, by omega, by omega, by go_num, by go_num, by omega, rfl⟩
      · obtain rfl : k = n := by omega
        go_wp2
        rw [rounds_succ]
        go_wp2
        go_ret
        exact ⟨⟨false, rfl⟩, rfl⟩
end Go.Proofs.YtmknbakfjhjfmaaGreatDoor.lgs

/-! Logs, the laws: the chapter's journal, from its beginning to its end. -/
namespace Go.Proofs.YtmknbakfjhjfmaaGreatDoor.lgs
open Go.RowKit Go.Lib Go.Proofs.YtmknbakfjhjfmaaGreatDoor.fil
set_option linter.unusedVariables false
set_option linter.unusedSimpArgs false
set_option linter.unnecessarySimpa false
set_option linter.unusedSectionVars false

section
variable {n fb xb st : Nat} {w0 w w' : World} {s s' : St} {F : Nat → Prop}
theorem lit_srd' (w : World) (zs : List ByteArray) : SRd (w.alloc (.cells (zs.map Value.string).toArray 9)) (w.heap.size + 1) (some ⟨w.heap.size, 0, none⟩) zs := by
  have h := (sps.lit_lst w zs zs.length rfl).srd
  rw [World.size_alloc] at h
  exact h
/-- A list of texts that reads. -/
def Tx (zs : List ByteArray) (v : Value) (w : World) : Prop := ∃ A k, v = .slice A zs.length k ∧ pce.Lst w (fun _ => True) A zs.length k zs
theorem Tx.move {zs : List ByteArray} {v : Value} (h : Tx zs v w) (hB : Below w.heap.size w w') : Tx zs v w' := by
  obtain ⟨A, k, e, hL⟩ := h
  exact ⟨A, k, e, hL.below hB⟩
theorem Lines.tx {zs : List ByteArray} {v : Value} (h : Lines w zs v w') : Tx zs v w' := by
  obtain ⟨A, k, e, hL, _⟩ := h
  exact ⟨A, k, e, hL.any⟩
theorem same_at {zs : List ByteArray} {m : Nat} (hm : m = zs.length) (hb : m ≤ 1000) {v : Value} {w1 : World} (hL : Tx zs v w1) (d : Nat) :
    Calls Tryz.prog 15 #[v, .slice (some ⟨w1.heap.size, 0, none⟩) m d] (w1.alloc (.cells (zs.map Value.string).toArray 9)) fun e w' => e = .returned (.bool true) ∧ Below w1.heap.size w1 w' := by
  obtain ⟨A, k, rfl, hL⟩ := hL
  have hB1 : Below w1.heap.size w1 (w1.alloc (.cells (zs.map Value.string).toArray 9)) := (Below.refl _ _).alloc (Nat.le_refl _) _
  refine (same_lines A (some ⟨w1.heap.size, 0, none⟩) k d (w1.heap.size + 1) zs.length m zs _ rfl hm (by omega) ((hL.srd.below hB1).more (by omega)) (lit_srd' w1 zs)).mono ?_
  rintro e w' ⟨rfl, q, rfl⟩
  exact ⟨rfl, below_drewN hB1 q⟩
/-- A journal, and a list in memory that is none of its file system's. -/
structure Jl (n : Nat) (w0 : World) (fb : Nat) (s : St) (xb st : Nat) (zs : List ByteArray) (v : Value) (w : World) : Prop where
  below : Below n w0 w
  room : n ≤ w0.heap.size
  hi : n ≤ xb
  is : ∃ F lo A k, (∀ b, F b → n ≤ b) ∧ ¬ F xb ∧ IsFs w fb s F ∧ (∀ b, F b → b < lo) ∧ v = .slice A zs.length k ∧ pce.Lst w (lo ≤ ·) A zs.length k zs
  log : LogAt w xb fb st false
theorem Jl.jr {zs : List ByteArray} {v : Value} (h : Jl n w0 fb s xb st zs v w) : Jr n w0 fb s xb st w := by
  obtain ⟨F, lo, A, k, h1, h2, h3, _⟩ := h.is
  exact ⟨h.below, h.room, h.hi, ⟨F, h1, h2, h3⟩, h.log⟩
theorem Jl.move {zs : List ByteArray} {v : Value} (h : Jl n w0 fb s xb st zs v w) (hB : Below w.heap.size w w') : Jl n w0 fb s xb st zs v w' := by
  obtain ⟨F, lo, A, k, h1, h2, h3, h4, h5, h6⟩ := h.is
  exact ⟨h.below.trans (hB.mono h.jr.size), h.room, h.hi, ⟨F, lo, A, k, h1, h2, h3.below hB, h4, h5, h6.below hB⟩, At.same h.log (hB.block _ (At.lt h.log))⟩
theorem crash_jr (w : World) (h : Jr n w0 fb s2 xb st w) : Calls Tryz.prog 12 #[.pointer (some ⟨fb, 0, none⟩), .slice none 0 0] w fun e w' => e = .returned (.int .i64 0) ∧ Jr n w0 fb s3 xb st w' :=
  h.lift fun F hF hI => by
    have C := crash_is none 0 0 0 [] w (by decide) (fun h => absurd h (by decide)) (fun b hb => .inr (Nat.zero_le _)) hI
    rw [cra2] at C
    exact C
theorem start_jr (w : World) (h : Jr n w0 fb s3 xb st w) : Calls Tryz.prog 16 #[.pointer (some ⟨fb, 0, none⟩)] w fun e w' => e = .returned (.int .i64 0) ∧ Jr n w0 fb s4 xb st w' :=
  h.lift fun F hF hI => by
    have C := start_is w (by decide) hI
    rw [sta3] at C
    exact C
theorem stop_jl {zs : List ByteArray} {v : Value} (w : World) (h : Jl n w0 fb s4 xb st zs v w) (hV : frm.Vars n w0) : Calls Tryz.prog 11 #[.pointer (some ⟨fb, 0, none⟩)] w fun e w' => e = .returned (.int .i64 0) ∧ Jr n w0 fb s5 xb st w' ∧ Tx zs v w' := by
  obtain ⟨F, lo, A, k, h1, h2, h3, h4, h5, h6⟩ := h.is
  refine (stop_ok w h3 (ErrT.of (hV.below h.below) h.jr.size) h1).mono ?_
  rintro e w' ⟨rfl, hT, F', h7, h8⟩
  refine ⟨rfl, ⟨h.below.trans (hT.below h.jr.size h1), h.room, h.hi, ⟨F', fun b hb => ?_, fun hx => ?_, h8⟩, hT.at h.log h2⟩, A, k, h5, (h6.keep (fun b hb hl => hT.block b hl (fun hf => by have := h4 b hf; omega)) hT.size).any⟩
  · rcases h7 b hb with h9 | h9
    · exact h1 b h9
    · have := h.jr.size; omega
  · rcases h7 xb hx with h9 | h9
    · exact h2 h9
    · have := At.lt h.log; omega
theorem rec_jr2 (w : World) (h : Jr n w0 fb s2 xb st w) (hV : frm.Vars n w0) : Calls Tryz.prog 13 #[.pointer (some ⟨fb, 0, none⟩)] w fun e w' => ∃ v, e = .returned (.tuple #[v, .int .i64 1, .int .i64 0]) ∧ Tx [La, Lx, Lb] v w' ∧ Jr n w0 fb s2 xb st w' := by
  obtain ⟨F, hF, hx, hI⟩ := h.is
  refine (rec_two w hI (h.vars hV)).mono ?_
  rintro e w' ⟨v, he, hL⟩
  have hB : Below w.heap.size w w' := by obtain ⟨_, _, _, _, hB⟩ := hL; exact hB
  exact ⟨v, he, hL.tx, h.move hB⟩
theorem rec_jl4 (w : World) (h : Jr n w0 fb s4 xb st w) (hV : frm.Vars n w0) : Calls Tryz.prog 13 #[.pointer (some ⟨fb, 0, none⟩)] w fun e w' => ∃ v, e = .returned (.tuple #[v, .int .i64 0, .int .i64 0]) ∧ Jl n w0 fb s4 xb st [La, Lb] v w' := by
  obtain ⟨F, hF, hx, hI⟩ := h.is
  refine (rec_one w hI (h.vars hV)).mono ?_
  rintro e w' ⟨v, he, A, k, hv, hL, hB⟩
  exact ⟨v, he, h.below.trans (hB.mono h.size), h.room, h.hi, ⟨F, w.heap.size, A, k, hF, hx, hI.below hB, hI.lt, hv, hL⟩, At.same h.log (hB.block _ (At.lt h.log))⟩
theorem rec_jr5 {zs : List ByteArray} {v : Value} (w : World) (h : Jr n w0 fb s5 xb st w) (hL : Tx zs v w) (hV : frm.Vars n w0) : Calls Tryz.prog 13 #[.pointer (some ⟨fb, 0, none⟩)] w fun e w' => e = .returned (.tuple #[.slice none 0 0, .int .i64 0, .int .i64 4]) ∧ Jr n w0 fb s5 xb st w' ∧ Tx zs v w' := by
  obtain ⟨F, hF, hx, hI⟩ := h.is
  exact (rec_err 4 (by decide) w hI rd5 (ErrT.of (hV.below h.below) h.size)).mono fun e w' hh => ⟨hh.1, h.move hh.2, hL.move hh.2⟩
theorem add_jr (w : World) (h : Jr n w0 fb s1 xb 0 w) (hV : frm.Vars n w0) :
    Calls Tryz.prog 7 #[.pointer (some ⟨xb, 0, none⟩), .slice (some ⟨w.heap.size + 1, 0, none⟩) 1 1] ((w.alloc (.cells #[.string Lx] 9)).alloc (.cells #[.int .i64 1, .int .i64 0, .slice (some ⟨w.heap.size, 0, none⟩) 1 1] 46)) fun e w' => e = .returned (.int .i64 0) ∧ Jr n w0 fb s2 xb 0 w' := by
  have hB1 : Below w.heap.size w (w.alloc (.cells #[.string Lx] 9)) := (Below.refl _ _).alloc (Nat.le_refl _) _
  have hB2 : Below (w.alloc (.cells #[.string Lx] 9)).heap.size (w.alloc (.cells #[.string Lx] 9)) ((w.alloc (.cells #[.string Lx] 9)).alloc (.cells #[.int .i64 1, .int .i64 0, .slice (some ⟨w.heap.size, 0, none⟩) 1 1] 46)) := (Below.refl _ _).alloc (Nat.le_refl _) _
  have hA := pce.At.new (w.alloc (.cells #[.string Lx] 9)) 46 #[.int .i64 1, .int .i64 0, .slice (some ⟨w.heap.size, 0, none⟩) 1 1]
  rw [World.size_alloc] at hA
  have hL : pce.Lst (w.alloc (.cells #[.string Lx] 9)) (fun _ => True) (some ⟨w.heap.size, 0, none⟩) 1 1 [Lx] := sps.lit_lst w [Lx] 1 rfl
  exact add_ok (w.heap.size + 1) 1 (some ⟨w.heap.size, 0, none⟩) 1 _ ((h.move hB1).move hB2) hV hA (hL.below hB2)

set_option maxHeartbeats 4000000 in
set_option maxRecDepth 100000 in
theorem lives_is (w : World) (hV : frm.Vars w.heap.size w) : Calls Tryz.prog 6 #[] w fun e w' => e = .returned (.bool true) ∧ Below w.heap.size w w' := by
  obtain ⟨n, hn⟩ : ∃ n, w.heap.size = n := ⟨_, rfl⟩
  rw [hn] at hV ⊢
  have K0 : Calls Tryz.prog 10 #[.int .i64 10000] w fun e w' => e = .returned (.tuple #[.pointer (some ⟨n + 1, 0, none⟩), .int .i64 0]) ∧ Run n w (n + 1) s0 w' := by
    rw [← hn]
    exact new_run 10000 w (by omega) (by omega)
  obtain ⟨fb, hfb⟩ : ∃ fb, n + 1 = fb := ⟨_, rfl⟩
  rw [hfb] at K0
  have K0 := Lib.hid K0
  have K1 := Lib.hid (fun W (hR : Run n w fb s0 W) => start_new (some ⟨W.heap.size, 0, none⟩) 2 (W.alloc (.cells #[.string La, .string Lb] 9)) (hR.move ((Below.refl _ _).alloc (Nat.le_refl _) _)) hV ((lit_srd' W [La, Lb]).more (by simp)))
  have K2 := Lib.hid (fun xb W (hJ : Jr n w fb s1 xb 0 W) => add_jr W hJ hV)
  have K3 := Lib.hid (fun xb W (hJ : Jr n w fb s2 xb 0 W) => rec_jr2 W hJ hV)
  have K4 := Lib.hid (fun v W1 (hL : Tx [La, Lx, Lb] v W1) => same_at (m := 3) rfl (by omega) hL 3)
  have K5 := Lib.hid (fun xb W (hJ : Jr n w fb s2 xb 0 W) => crash_jr W hJ)
  have K6 := Lib.hid (fun xb W (hJ : Jr n w fb s3 xb 0 W) => sync_over W hJ rfl)
  have K7 := Lib.hid (fun xb W (hJ : Jr n w fb s3 xb 0 W) => start_jr W hJ)
  have K8 := Lib.hid (fun xb W (hJ : Jr n w fb s4 xb 0 W) => rec_jl4 W hJ hV)
  have K9 := Lib.hid (fun xb v W (hJ : Jl n w fb s4 xb 0 [La, Lb] v W) => rec_no none W (.inl rfl) (ErrT.of (hJ.jr.vars hV) (Nat.le_refl _)))
  have K10 := Lib.hid (fun xb v W (hJ : Jl n w fb s4 xb 0 [La, Lb] v W) => stop_jl W hJ hV)
  have K11 := Lib.hid (fun xb v W (hJ : Jr n w fb s5 xb 0 W) (hL : Tx [La, Lb] v W) => rec_jr5 W hJ hL hV)
  have K12 := Lib.hid (fun v W1 (hL : Tx [La, Lb] v W1) => same_at (m := 2) rfl (by omega) hL 2)
  clear hV hn hfb
  go_enter Tryz.func6, Tryz.ntmps6
  go_wp2_with (first
    | (go_at_call 10; (with_reducible refine K0.out.mono ?_); rintro e w1 ⟨rfl, hR1⟩)
    | (go_at_call 9; refine (K1.out _ hR1).mono ?_; rintro e w2 ⟨xb, rfl, hJ2⟩)
    | (go_at_call 7; refine (K2.out xb _ hJ2).mono ?_; rintro e w3 ⟨rfl, hJ3⟩)
    | (go_at_call 13; (with_reducible refine (K3.out xb _ hJ3).mono ?_); rintro e w4 ⟨v4, rfl, hL4, hJ4⟩)
    | (go_at_call 15; refine (K4.out v4 _ hL4).mono ?_; rintro e w5 ⟨rfl, hB5⟩; have hJ5 := hJ4.move hB5; clear hL4)
    | (go_at_call 12; (with_reducible refine (K5.out xb _ hJ5).mono ?_); rintro e w6 ⟨rfl, hJ6⟩)
    | (go_at_call 8; (with_reducible refine (K6.out xb _ hJ6).mono ?_); rintro e w7 ⟨rfl, hB7⟩; have hJ7 := hJ6.move hB7)
    | (go_at_call 16; (with_reducible refine (K7.out xb _ hJ7).mono ?_); rintro e w8 ⟨rfl, hJ8⟩)
    | (go_at_call 13; (with_reducible refine (K8.out xb _ hJ8).mono ?_); rintro e w9 ⟨v9, rfl, hJ9⟩)
    | (go_at_call 13; (with_reducible refine (K9.out xb v9 _ hJ9).mono ?_); rintro e w10 ⟨rfl, hB10⟩; have hJ10 := hJ9.move hB10)
    | (go_at_call 11; (with_reducible refine (K10.out xb v9 _ hJ10).mono ?_); rintro e w11 ⟨rfl, hJ11, hL11⟩)
    | (go_at_call 13; (with_reducible refine (K11.out xb v9 _ hJ11 hL11).mono ?_); rintro e w12 ⟨rfl, hJ12, hL12⟩)
    | (go_at_call 15; refine (K12.out v9 _ hL12).mono ?_; rintro e w13 ⟨rfl, hB13⟩))
  go_ret
  exact ⟨rfl, hJ12.below.trans (hB13.mono hJ12.size)⟩
end
end Go.Proofs.YtmknbakfjhjfmaaGreatDoor.lgs

/-! LogsNone, walked. -/
namespace Go.Proofs.YtmknbakfjhjfmaaGreatDoor.lgs
open Go.RowKit Go.Lib Go.Proofs.YtmknbakfjhjfmaaGreatDoor.fil
set_option linter.unusedVariables false
set_option linter.unusedSimpArgs false
set_option linter.unnecessarySimpa false
set_option linter.unusedSectionVars false

section
variable {n fb : Nat} {w0 w w' : World} {s : St}
theorem NoLog.below {p : Option Addr} (h : NoLog w p) (hB : Below w.heap.size w w') : NoLog w' p := by
  rcases h with h | ⟨b, e, hA⟩
  · exact .inl h
  · exact .inr ⟨b, e, At.same hA (hB.block _ (At.lt hA))⟩
theorem tot_le : ∀ (zs : List ByteArray), (∀ z ∈ zs, z.size ≤ 300) → tot zs ≤ 300 * zs.length
  | [], _ => by simp [tot]
  | z :: zs, h => by
    have h1 := tot_le zs (fun x hx => h x (by simp [hx]))
    have h2 := h z (by simp)
    simp [tot] at h1 ⊢
    omega
/-- The system that is made and crashed. -/
def sD : St := ⟨1000, [], true, 0, none⟩
theorem craD : sCrash (sNew 1000) [] = (0, sD) := by kernel_rfl
theorem rdD : reads sD logL = ([], 51) := by kernel_rfl
theorem crash_dn (w : World) (h : Run n w0 fb (sNew 1000) w) : Calls Tryz.prog 12 #[.pointer (some ⟨fb, 0, none⟩), .slice none 0 0] w fun e w' => e = .returned (.int .i64 0) ∧ Run n w0 fb sD w' := by
  have C := crash_run none 0 [] (by decide) (fun h => absurd h (by decide)) h
  rw [craD] at C
  exact C
theorem start_dn (A : Option Addr) (k c : Nat) (zs : List ByteArray) (w : World) (h : Run n w0 fb sD w) (hV : frm.Vars n w0) (hk : k = zs.length) (hb : k ≤ 20) (ht : tot zs ≤ 6000) (hS : SRd w w.heap.size A zs) :
    Calls Tryz.prog 9 #[.pointer (some ⟨fb, 0, none⟩), .slice A k c] w fun e w' => e = .returned (.tuple #[.pointer none, .int .i64 51]) ∧ Run n w0 fb sD w' := by
  obtain ⟨F, hF, hI⟩ := h.is
  exact (start_down A k c zs w hI rfl hF h.size (hV.below h.below) hk hb ht hS).mono fun e w' hh => ⟨hh.1, Run.went h.below h.room hF hh.2⟩
theorem rec_dn (w : World) (h : Run n w0 fb sD w) (hV : frm.Vars n w0) : Calls Tryz.prog 13 #[.pointer (some ⟨fb, 0, none⟩)] w fun e w' => e = .returned (.tuple #[.slice none 0 0, .int .i64 0, .int .i64 51]) ∧ Run n w0 fb sD w' := by
  obtain ⟨F, hF, hI⟩ := h.is
  exact (rec_err 51 (by decide) w hI rdD (ErrT.of (hV.below h.below) h.size)).mono fun e w' hh => ⟨hh.1, h.move hh.2⟩
theorem stop_dn (w : World) (h : Run n w0 fb sD w) (hV : frm.Vars n w0) : Calls Tryz.prog 11 #[.pointer (some ⟨fb, 0, none⟩)] w fun e w' => e = .returned (.int .i64 51) ∧ Run n w0 fb sD w' := by
  obtain ⟨F, hF, hI⟩ := h.is
  exact (stop_down w hI rfl (ErrT.of (hV.below h.below) h.size) hF).mono fun e w' hh => ⟨hh.1, Run.went h.below h.room hF hh.2⟩
theorem new_dn (W : World) : Calls Tryz.prog 10 #[.int .i64 1000] W fun e w' => e = .returned (.tuple #[.pointer (some ⟨W.heap.size + 1, 0, none⟩), .int .i64 0]) ∧ Run W.heap.size W (W.heap.size + 1) (sNew 1000) w' := new_run 1000 W (by omega) (by omega)

set_option maxHeartbeats 8000000 in
set_option maxRecDepth 100000 in
theorem law3 (A : Option Addr) (k c : Nat) (zs : List ByteArray) (Bo : Option Addr) (m c' : Nat) (ts : List pce.Ct) (w : World) (hk : k = zs.length) (hkb : k ≤ maxLen) (hz : ∀ z ∈ zs, z.size ≤ maxLen) (hS : SRd w w.heap.size A zs)
    (hm : m = ts.length) (hmb : m ≤ maxLen) (hC : pce.Cuts w (· < w.heap.size) Bo ts) (hV : frm.Vars w.heap.size w) :
    Calls Tryz.prog 3 #[.slice A k c, .slice Bo m c'] w fun e w' => e = .returned (.bool true) ∧ Below w.heap.size w w' := by
  have hB0 : Below w.heap.size w (w.alloc (.cells #[.slice Bo m c'] 23)) := (Below.refl _ _).alloc (Nat.le_refl _) _
  have K1 := Lib.hid (beyondLines_is w w.heap.size A k c zs 20 (by omega) hk hkb hz hS)
  have K2 := Lib.hid (beyond18 (w.alloc (.cells #[.slice Bo m c'] 23)) w.heap.size 1 _ Bo m c' ts hm hmb (hC.below hB0) (pce.At.new w _ _))
  have K3 := Lib.hid (fun W (hB : Below w.heap.size w W) => lives_is W (hV.next hB))
  have K4 := Lib.hid (fun p W (h : NoLog W p) => add_no p Bo m c' W h)
  have K5 := Lib.hid (fun p W (h : NoLog W p) => sync_none p W h)
  have K6 := Lib.hid (fun W => start_no none A k c W (.inl rfl))
  have K7 := Lib.hid (fun W (hB : Below w.heap.size w W) => stop_no none W (.inl rfl) (ErrT.of (hV.next hB) (Nat.le_refl _)))
  have K8 := Lib.hid (fun fb W0 W (h : Run W0.heap.size W0 fb (sNew 1000) W) => crash_dn W h)
  have K9 := Lib.hid (fun fb W0 W (hB : Below w.heap.size w W0) (hkl : k ≤ 20) (ht : tot zs ≤ 6000) (h : Run W0.heap.size W0 fb sD W) => start_dn A k c zs W h (hV.next hB) hk hkl ht ((hS.below (hB.trans (h.below.mono hB.size))).more (Nat.le_trans hB.size h.size)))
  have K10 := Lib.hid (fun fb W0 W (hB : Below w.heap.size w W0) (h : Run W0.heap.size W0 fb sD W) => rec_dn W h (hV.next hB))
  have K11 := Lib.hid (fun fb W0 W (hB : Below w.heap.size w W0) (h : Run W0.heap.size W0 fb sD W) => stop_dn W h (hV.next hB))
  have HT := Lib.hid tot_le
  have HK := Lib.hid hk
  clear hk hkb hz hS hm hmb hC hV
  go_enter Tryz.func3, Tryz.ntmps3
  go_wp2_with (first
    | (go_at_call 4; refine K1.out.mono ?_; rintro e w1 ⟨rfl | ⟨rfl, hl, hs⟩, rfl⟩)
    | (go_at_call 5; refine K2.out.mono ?_; rintro e w1 ⟨⟨r, rfl⟩, rfl⟩; cases r)
    | (go_at_call 6; refine (K3.out _ (by first | exact Below.refl _ _ | exact hB0)).mono ?_; rintro e w2 ⟨rfl, hB2⟩))
  · go_ret
    exact ⟨rfl, hB2⟩
  · have hkl : k ≤ 20 := by rw [HK.out]; exact hl
    have HTT : Hid (tot zs ≤ 6000) := Lib.hid (by have := HT.out zs hs; omega)
    clear hl hs K1 K2
    generalize w.alloc (.cells #[.slice Bo m c'] 23) = W0 at *
    refine wp_loop_rounds 3 ?_
    rw [rounds_succ]
    go_wp2_with (first
      | (go_at_call 7; refine (K4.out none _ (.inl rfl)).mono ?_; rintro e w1 ⟨rfl, hB1⟩)
      | (go_at_call 8; refine (K5.out none _ (.inl rfl)).mono ?_; rintro e w2 ⟨rfl, hB2⟩))
    have hB02 : Below w.heap.size w w2 := (hB0.trans (hB1.mono hB0.size)).trans (hB2.mono (Nat.le_trans hB0.size hB1.size))
    have hN3 : NoLog (w2.alloc (.cells #[.pointer none, .int .i64 0, .bool false] 34)) (some ⟨w2.heap.size, 0, none⟩) := .inr ⟨_, rfl, At.new w2 _ _⟩
    have hB03 : Below w.heap.size w (w2.alloc (.cells #[.pointer none, .int .i64 0, .bool false] 34)) := hB02.alloc hB02.size _
    clear hB1 hB2 hB0
    rw [rounds_succ]
    generalize w2.alloc (.cells #[.pointer none, .int .i64 0, .bool false] 34) = w3 at *
    generalize w2.heap.size = b2 at *
    clear hB02
    go_wp2_with (first
      | (go_at_call 7; refine (K4.out (some ⟨b2, 0, none⟩) _ hN3).mono ?_; rintro e w4 ⟨rfl, hB4⟩; have hN4 := hN3.below hB4)
      | (go_at_call 8; refine (K5.out (some ⟨b2, 0, none⟩) _ hN4).mono ?_; rintro e w5 ⟨rfl, hB5⟩))
    have hB05 : Below w.heap.size w w5 := (hB03.trans (hB4.mono hB03.size)).trans (hB5.mono (Nat.le_trans hB03.size hB4.size))
    have hB06 : Below w.heap.size w (w5.alloc (.cells #[.pointer none, .int .i64 0, .bool false] 34)) := hB05.alloc hB05.size _
    clear hB4 hB5 hN4 hN3 hB03
    rw [rounds_succ]
    generalize w5.alloc (.cells #[.pointer none, .int .i64 0, .bool false] 34) = w6 at *
    generalize w5.heap.size = b5 at *
    clear hB05
    go_wp2_with (first
      | (go_at_call 9; (with_reducible refine (K6.out _).mono ?_); rintro e w7 ⟨rfl, hB7⟩; have hB07 := hB06.trans (hB7.mono hB06.size))
      | (go_at_call 10; (with_reducible refine (new_dn _).mono ?_); rintro e w8 ⟨rfl, hR8⟩; have hB08 := hB07.trans (hR8.below.mono hB07.size))
      | (go_at_call 11; (with_reducible refine (K7.out _ hB08).mono ?_); rintro e w9 ⟨rfl, hB9⟩; have hR9 := hR8.move hB9)
      | (go_at_call 12; (with_reducible refine (K8.out _ _ _ hR9).mono ?_); rintro e w10 ⟨rfl, hR10⟩)
      | (go_at_call 9; (with_reducible refine (K9.out _ _ _ hB07 hkl HTT.out hR10).mono ?_); rintro e w11 ⟨rfl, hR11⟩)
      | (go_at_call 13; (with_reducible refine (K10.out _ _ _ hB07 hR11).mono ?_); rintro e w12 ⟨rfl, hR12⟩)
      | (go_at_call 11; (with_reducible refine (K11.out _ _ _ hB07 hR12).mono ?_); rintro e w13 ⟨rfl, hR13⟩; have hB13 := hB07.trans (hR13.below.mono hB07.size))
      | (go_at_call 6; (with_reducible refine (K3.out _ hB13).mono ?_); rintro e w14 ⟨rfl, hB14⟩))
    go_ret
    exact ⟨rfl, hB13.trans (hB14.mono hB13.size)⟩
  · go_ret
    exact ⟨rfl, hB0.trans (hB2.mono hB0.size)⟩
end
end Go.Proofs.YtmknbakfjhjfmaaGreatDoor.lgs
