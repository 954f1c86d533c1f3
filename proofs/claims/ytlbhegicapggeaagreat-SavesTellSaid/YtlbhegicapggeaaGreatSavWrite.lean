/- Saves: Write. -/
import Derived.Test.YtlbhegicapggeaaGreatSavAsk
/-! Saves: a row of function literals, done one behind the other, up to the first error. -/
namespace Go.Proofs.YtlbhegicapggeaaGreat.sav
open Go.RowKit Go.Lib Go.Maps Go.WideMaps fil
set_option linter.unusedVariables false
set_option linter.unusedSimpArgs false
set_option linter.unnecessarySimpa false
set_option linter.unusedSectionVars false

set_option maxHeartbeats 1000000 in
set_option maxRecDepth 100000 in
theorem row_is (b n c : Nat) (ks : Nat → Nat) (cs : Nat → Array Value) (Inv : Nat → World → Prop) (Done : Int → World → Prop) (w : World) (hn : n ≤ 1000)
    (hcell : ∀ i W, i < n → Inv i W → W.cell? ⟨b, i, none⟩ = some (.func (.func (ks i)) #[] (cs i)))
    (hfunc : ∀ i W, (callFunc (ks i) (cs i)).run Tryz.prog W = .ok (.enter (ks i) (cs i)) W)
    (hdo : ∀ i W, i < n → Inv i W → Calls Tryz.prog (ks i) (cs i) W fun e W' => ∃ z, e = .returned (.int .i64 z) ∧ ((z = 0 ∧ Inv (i + 1) W') ∨ (z ≠ 0 ∧ Done z W')))
    (h0 : Inv 0 w) (hend : ∀ W, Inv n W → Done 0 W) :
    Calls Tryz.prog 25 #[.slice (some ⟨b, 0, none⟩) n c] w fun e w' => ∃ z, e = .returned (.int .i64 z) ∧ Done z w' := by
  have HC := Lib.hid hcell
  have HF := Lib.hid hfunc
  have HD := Lib.hid hdo
  have H0 := Lib.hid h0
  have HE := Lib.hid hend
  clear hcell hfunc hdo h0 hend
  go_enter Tryz.func25, Tryz.ntmps25
  go_wp2
  go_loopg [8] n (fun g s8 wr => ∃ i : Nat, s8 = .int .i64 i ∧ i ≤ n ∧ n - i ≤ g ∧ Hid (Inv i wr))
  case atStart => exact ⟨0, rfl, Nat.zero_le _, by omega, H0⟩
  case round =>
    obtain ⟨i, rfl, hi, hg, HI⟩ := hrel
    by_cases hlt : i < n
    · have k0 := HC.out i wr hlt HI.out
      have f0 := HF.out i
      have C := Lib.hid (HD.out i wr hlt HI.out)
      go_wp2
      refine C.out.mono ?_
      rintro e w2 ⟨z, rfl, hz⟩
      have HZ := Lib.hid hz
      clear hz C
      by_cases hz0 : z = 0
      · subst hz0
        go_wp2
        go_roundg (n - (i + 1))
        case measure => omega
        case rel =>
          rcases HZ.out with ⟨_, h⟩ | ⟨h, _⟩
          · exact ⟨i + 1, by go_num, by omega, by omega, Lib.hid h⟩
          · exact absurd rfl h
      · have hd : (z != 0) = true := by simpa using hz0
        go_wp2
        go_ret
        rcases HZ.out with ⟨h, _⟩ | ⟨_, h⟩
        · exact absurd h hz0
        · exact ⟨z, rfl, h⟩
    · obtain rfl : i = n := by omega
      go_wp2
      go_ret
      exact ⟨0, rfl, HE.out _ HI.out⟩
end Go.Proofs.YtlbhegicapggeaaGreat.sav

/-! Saves: Write. -/
namespace Go.Proofs.YtlbhegicapggeaaGreat.sav
open Go.RowKit Go.Lib Go.Maps Go.WideMaps fil
set_option linter.unusedVariables false
set_option linter.unusedSimpArgs false
set_option linter.unnecessarySimpa false
set_option linter.unusedSectionVars false

/-- What is left of a Write behind so many acts. -/
def rest4 (nm t : List UInt8) (s : St) : Int × St := andThen (sRename s dn nm) fun s => (0, s)
def rest3 (nm t : List UInt8) (s : St) : Int × St := andThen (sSync s dn) (rest4 nm t)
def rest2 (nm t : List UInt8) (s : St) : Int × St := andThen (sAppend s dn t) (rest3 nm t)
def rest1 (nm t : List UInt8) (s : St) : Int × St := andThen (sClean s) (rest2 nm t)
def rest0 (nm t : List UInt8) (s : St) : Int × St := andThen (sAgainst s nm, s) (rest1 nm t)
def rest (nm t : List UInt8) : Nat → St → Int × St
  | 0 => rest0 nm t
  | 1 => rest1 nm t
  | 2 => rest2 nm t
  | 3 => rest3 nm t
  | 4 => rest4 nm t
  | _ => fun s => (0, s)
theorem rest_zero (nm t : List UInt8) (s : St) : rest nm t 0 s = sWrite s nm t := by
  have e4 : (rest nm t 4) = fun s => sRename s dn nm := by
    funext s
    show andThen (sRename s dn nm) _ = _
    unfold andThen
    split
    · rename_i h
      exact Prod.ext h.symm rfl
    · rfl
  have e3 : rest nm t 3 = fun s => andThen (sSync s dn) fun s => sRename s dn nm := by
    rw [← e4]; rfl
  have e2 : rest nm t 2 = fun s => andThen (sAppend s dn t) fun s => andThen (sSync s dn) fun s => sRename s dn nm := by
    rw [← e3]; rfl
  have e1 : rest nm t 1 = fun s => andThen (sClean s) fun s => andThen (sAppend s dn t) fun s => andThen (sSync s dn) fun s => sRename s dn nm := by
    rw [← e2]; rfl
  unfold sWrite
  show andThen (sAgainst s nm, s) (rest nm t 1) = _
  rw [e1]

section
variable {w w' : World} {F : Nat → Prop} {fb : Nat} {s : St}

/-! ### The five acts -/
theorem act1_is (b1 b2 : Nat) (nm : ByteArray) (w : World) (hn : nm.size ≤ maxLen) (h1 : Box w b1 25 (.pointer (some ⟨fb, 0, none⟩))) (h2 : Box w b2 9 (.string nm)) (h : IsFs w fb s F) :
    Calls Tryz.prog 26 #[.pointer (some ⟨b1, 0, none⟩), .pointer (some ⟨b2, 0, none⟩)] w fun e w' => e = .returned (.int .i64 (sAgainst s nm.data.toList)) ∧ Went F fb s w w' := by
  have HW := Lib.hid (Wentz.refl h)
  have C := Lib.hid (against_is nm w hn h)
  have k1 := h1.cell
  have k2 := h2.cell
  clear h h1 h2
  go_enter Tryz.func26, Tryz.ntmps26
  go_wp2_with (go_at_call 17; refine C.out.mono ?_; rintro e w' ⟨rfl, rfl⟩)
  go_ret
  exact ⟨rfl, HW.out⟩
theorem act1_no (b1 b2 : Nat) (p : Option Addr) (nm : ByteArray) (w : World) (h1 : Box w b1 25 (.pointer p)) (h2 : Box w b2 9 (.string nm)) (h : NoFs w p) :
    Calls Tryz.prog 26 #[.pointer (some ⟨b1, 0, none⟩), .pointer (some ⟨b2, 0, none⟩)] w fun e w' => e = .returned (.int .i64 1) ∧ w = w' := by
  have C := Lib.hid (against_no p nm w h)
  have k1 := h1.cell
  have k2 := h2.cell
  clear h h1 h2
  go_enter Tryz.func26, Tryz.ntmps26
  go_wp2_with (go_at_call 17; refine C.out.mono ?_; rintro e w' ⟨rfl, rfl⟩)
  go_ret
  exact ⟨rfl, rfl⟩
theorem act2_is (b1 : Nat) (w : World) (h1 : Box w b1 25 (.pointer (some ⟨fb, 0, none⟩))) (h : IsFs w fb s F) :
    Calls Tryz.prog 27 #[.pointer (some ⟨b1, 0, none⟩)] w fun e w' => e = .returned (.int .i64 (sClean s).1) ∧ Went F fb (sClean s).2 w w' := by
  have C := Lib.hid (clean_is w h)
  have k1 := h1.cell
  clear h h1
  go_enter Tryz.func27, Tryz.ntmps27
  go_wp2_with (go_at_call 9; refine C.out.mono ?_; rintro e w' ⟨rfl, hW⟩)
  go_ret
  exact ⟨rfl, hW⟩
theorem act3_is (b1 b2 : Nat) (t : ByteArray) (w : World) (ht : t.size ≤ maxLen) (h1 : Box w b1 25 (.pointer (some ⟨fb, 0, none⟩))) (h2 : Box w b2 9 (.string t)) (h : IsFs w fb s F) :
    Calls Tryz.prog 28 #[.pointer (some ⟨b1, 0, none⟩), .pointer (some ⟨b2, 0, none⟩)] w fun e w' => e = .returned (.int .i64 (sAppend s dn t.data.toList).1) ∧ Went F fb (sAppend s dn t.data.toList).2 w w' := by
  have C := append_is ⟨#[126]⟩ t w (by decide) ht h
  rw [show (⟨#[126]⟩ : ByteArray).data.toList = dn from rfl] at C
  have C := Lib.hid C
  have k1 := h1.cell
  have k2 := h2.cell
  clear h h1 h2
  go_enter Tryz.func28, Tryz.ntmps28
  go_wp2_with (go_at_call 29; refine C.out.mono ?_; rintro e w' ⟨rfl, hW⟩)
  go_ret
  exact ⟨rfl, hW⟩
theorem act4_is (b1 : Nat) (w : World) (h1 : Box w b1 25 (.pointer (some ⟨fb, 0, none⟩))) (h : IsFs w fb s F) :
    Calls Tryz.prog 30 #[.pointer (some ⟨b1, 0, none⟩)] w fun e w' => e = .returned (.int .i64 (sSync s dn).1) ∧ Went F fb (sSync s dn).2 w w' := by
  have C := sync_is ⟨#[126]⟩ w (by decide) h
  rw [show (⟨#[126]⟩ : ByteArray).data.toList = dn from rfl] at C
  have C := Lib.hid C
  have k1 := h1.cell
  clear h h1
  go_enter Tryz.func30, Tryz.ntmps30
  go_wp2_with (go_at_call 31; refine C.out.mono ?_; rintro e w' ⟨rfl, hW⟩)
  go_ret
  exact ⟨rfl, hW⟩
theorem act5_is (b1 b2 : Nat) (nm : ByteArray) (w : World) (hn : nm.size ≤ maxLen) (h1 : Box w b1 25 (.pointer (some ⟨fb, 0, none⟩))) (h2 : Box w b2 9 (.string nm)) (h : IsFs w fb s F) :
    Calls Tryz.prog 32 #[.pointer (some ⟨b1, 0, none⟩), .pointer (some ⟨b2, 0, none⟩)] w fun e w' => e = .returned (.int .i64 (sRename s dn nm.data.toList).1) ∧ Went F fb (sRename s dn nm.data.toList).2 w w' := by
  have C := rename_is ⟨#[126]⟩ nm w (by decide) hn h
  rw [show (⟨#[126]⟩ : ByteArray).data.toList = dn from rfl] at C
  have C := Lib.hid C
  have k1 := h1.cell
  have k2 := h2.cell
  clear h h1 h2
  go_enter Tryz.func32, Tryz.ntmps32
  go_wp2_with (go_at_call 33; refine C.out.mono ?_; rintro e w' ⟨rfl, hW⟩)
  go_ret
  exact ⟨rfl, hW⟩

/-! ### The row of them -/
/-- The functions, and what they have captured: the variables lie in the blocks b, b + 1, b + 2. -/
def fns : Nat → Nat
  | 0 => 26
  | 1 => 27
  | 2 => 28
  | 3 => 30
  | _ => 32
def caps (b : Nat) : Nat → Array Value
  | 0 => #[.pointer (some ⟨b, 0, none⟩), .pointer (some ⟨b + 1, 0, none⟩)]
  | 1 => #[.pointer (some ⟨b, 0, none⟩)]
  | 2 => #[.pointer (some ⟨b, 0, none⟩), .pointer (some ⟨b + 2, 0, none⟩)]
  | 3 => #[.pointer (some ⟨b, 0, none⟩)]
  | _ => #[.pointer (some ⟨b, 0, none⟩), .pointer (some ⟨b + 1, 0, none⟩)]
def lits (b : Nat) : Array Value :=
  #[.func (.func 26) #[] #[.pointer (some ⟨b, 0, none⟩), .pointer (some ⟨b + 1, 0, none⟩)], .func (.func 27) #[] #[.pointer (some ⟨b, 0, none⟩)],
    .func (.func 28) #[] #[.pointer (some ⟨b, 0, none⟩), .pointer (some ⟨b + 2, 0, none⟩)], .func (.func 30) #[] #[.pointer (some ⟨b, 0, none⟩)],
    .func (.func 32) #[] #[.pointer (some ⟨b, 0, none⟩), .pointer (some ⟨b + 1, 0, none⟩)]]
theorem lits_at (b i : Nat) (h : i < 5) : (lits b)[i]? = some (.func (.func (fns i)) #[] (caps b i)) := by
  match i, h with
  | 0, _ | 1, _ | 2, _ | 3, _ | 4, _ => rfl
theorem fns_enter (b i : Nat) (W : World) : (callFunc (fns i) (caps b i)).run Tryz.prog W = .ok (.enter (fns i) (caps b i)) W := by
  match i with
  | 0 | 1 | 2 | 3 | n + 4 => simp [fns, caps, go_sem]
/-- The variables, and the row. -/
structure Vars5 (b : Nat) (p : Option Addr) (nm t : ByteArray) (W : World) : Prop where
  b1 : Box W b 25 (.pointer p)
  b2 : Box W (b + 1) 9 (.string nm)
  b3 : Box W (b + 2) 9 (.string t)
  row : At W (b + 3) 60 (lits b)
/-- Four blocks above a system. -/
theorem Vars5.turned {b : Nat} {p : Option Addr} {nm t : ByteArray} {W W' : World} (h : Vars5 b p nm t W) (hn : ∀ x, F x → x < b) (hT : Turned F W W') : Vars5 b p nm t W' :=
  ⟨hT.at h.b1 (fun hf => by have := hn _ hf; omega), hT.at h.b2 (fun hf => by have := hn _ hf; omega), hT.at h.b3 (fun hf => by have := hn _ hf; omega), hT.at h.row (fun hf => by have := hn _ hf; omega)⟩

theorem rest_step (nm t : List UInt8) {r r' : Int × St} {f : St → Int × St} (h : andThen r f = r') : (r.1 = 0 → f r.2 = r') ∧ (r.1 ≠ 0 → r = r') := by
  unfold andThen at h
  exact ⟨fun e => by rw [if_pos e] at h; exact h, fun e => by rw [if_neg e] at h; exact h⟩

theorem written (b : Nat) (nm t : ByteArray) (w : World) (hn : nm.size ≤ maxLen) (ht : t.size ≤ maxLen) (hb : ∀ x, F x → x < b) (hv : Vars5 b (some ⟨fb, 0, none⟩) nm t w) (h : IsFs w fb s F) :
    Calls Tryz.prog 25 #[.slice (some ⟨b + 3, 0, none⟩) 5 5] w fun e w' => ∃ z, e = .returned (.int .i64 z) ∧ z = (sWrite s nm.data.toList t.data.toList).1 ∧ Went F fb (sWrite s nm.data.toList t.data.toList).2 w w' := by
  generalize hr : sWrite s nm.data.toList t.data.toList = r
  have step : ∀ {W : World} {k : Nat} {c : Array Value} {i : Nat} {r1 : Int × St} {s1 : St}, Went F fb s1 w W → andThen r1 (rest nm.data.toList t.data.toList (i + 1)) = r →
      (∀ F', IsFs W fb s1 F' → Calls Tryz.prog k c W fun e w' => e = .returned (.int .i64 r1.1) ∧ Went F' fb r1.2 W w') →
      Calls Tryz.prog k c W fun e W' => ∃ z, e = .returned (.int .i64 z) ∧ ((z = 0 ∧ ∃ s2, rest nm.data.toList t.data.toList (i + 1) s2 = r ∧ Went F fb s2 w W') ∨ (z ≠ 0 ∧ z = r.1 ∧ Went F fb r.2 w W')) := by
    intro W k c i r1 s1 hW hr1 hC
    obtain ⟨hT, F', hF', hI⟩ := hW
    refine (hC F' hI).mono ?_
    rintro e W' ⟨rfl, hW'⟩
    have hW2 : Went F fb r1.2 w W' := Wentz.trans hT hF' hW'
    obtain ⟨g1, g2⟩ := rest_step nm.data.toList t.data.toList hr1
    refine ⟨_, rfl, ?_⟩
    by_cases hz : r1.1 = 0
    · exact .inl ⟨hz, _, g1 hz, hW2⟩
    · refine .inr ⟨hz, ?_, ?_⟩
      · rw [← g2 hz]
      · rw [← g2 hz]; exact hW2
  refine row_is (b + 3) 5 5 fns (caps b) (fun i W => ∃ s1, rest nm.data.toList t.data.toList i s1 = r ∧ Went F fb s1 w W) (fun z W => z = r.1 ∧ Went F fb r.2 w W) w (by omega) ?_ (fns_enter b) ?_ ⟨s, (rest_zero _ _ s).trans hr, Wentz.refl h⟩ ?_
  · rintro i W hi ⟨s1, _, hT, _⟩
    rw [(hv.turned hb hT).row.cell i]
    exact lits_at b i hi
  · rintro i W hi ⟨s1, h1, hW⟩
    have V := hv.turned hb hW.1
    match i, hi with
    | 0, _ => exact step hW h1 fun F' hI => act1_is b (b + 1) nm W hn V.b1 V.b2 hI
    | 1, _ => exact step hW h1 fun F' hI => act2_is b W V.b1 hI
    | 2, _ => exact step hW h1 fun F' hI => act3_is b (b + 2) t W ht V.b1 V.b3 hI
    | 3, _ => exact step hW h1 fun F' hI => act4_is b W V.b1 hI
    | 4, _ => exact step hW h1 fun F' hI => act5_is b (b + 1) nm W hn V.b1 V.b2 hI
  · rintro W ⟨s1, h1, hW⟩
    have e : ((0 : Int), s1) = r := h1
    rw [← e]
    exact ⟨rfl, hW⟩
theorem written_no (b : Nat) (p : Option Addr) (nm t : ByteArray) (w : World) (hv : Vars5 b p nm t w) (h : NoFs w p) :
    Calls Tryz.prog 25 #[.slice (some ⟨b + 3, 0, none⟩) 5 5] w fun e w' => ∃ z, e = .returned (.int .i64 z) ∧ z = 1 ∧ w = w' := by
  refine row_is (b + 3) 5 5 fns (caps b) (fun i W => i = 0 ∧ w = W) (fun z W => z = 1 ∧ w = W) w (by omega) ?_ (fns_enter b) ?_ ⟨rfl, rfl⟩ ?_
  · rintro i W hi ⟨rfl, rfl⟩
    rw [hv.row.cell 0]
    exact lits_at b 0 hi
  · rintro i W hi ⟨rfl, rfl⟩
    refine (act1_no b (b + 1) p nm w hv.b1 hv.b2 h).mono ?_
    rintro e W' ⟨rfl, rfl⟩
    exact ⟨1, rfl, .inr ⟨by decide, rfl, rfl⟩⟩
  · rintro W ⟨h, _⟩
    cases h

/-- The four blocks, as Write lays them. -/
def Laid5 (w : World) (p : Option Addr) (nm t : ByteArray) : World :=
  (((w.alloc (.cells #[.pointer p] 25)).alloc (.cells #[.string nm] 9)).alloc (.cells #[.string t] 9)).alloc (.cells (lits w.heap.size) 60)
theorem laid5 (w : World) (p : Option Addr) (nm t : ByteArray) : Vars5 w.heap.size p nm t (Laid5 w p nm t) ∧ Below w.heap.size w (Laid5 w p nm t) := by
  refine ⟨⟨(((At.new w _ _).alloc _).alloc _).alloc _, ?_, ?_, ?_⟩, ((((Below.refl _ w).alloc (Nat.le_refl _) _).alloc (by simp) _).alloc (by simp; omega) _).alloc (by simp; omega) _⟩
  · have := ((At.new (w.alloc (.cells #[.pointer p] 25)) 9 #[.string nm]).alloc (.cells #[.string t] 9)).alloc (.cells (lits w.heap.size) 60)
    rw [World.size_alloc] at this
    exact this
  · have := (At.new ((w.alloc (.cells #[.pointer p] 25)).alloc (.cells #[.string nm] 9)) 9 #[.string t]).alloc (.cells (lits w.heap.size) 60)
    rw [World.size_alloc, World.size_alloc] at this
    exact this
  · have := At.new (((w.alloc (.cells #[.pointer p] 25)).alloc (.cells #[.string nm] 9)).alloc (.cells #[.string t] 9)) 60 (lits w.heap.size)
    rw [World.size_alloc, World.size_alloc, World.size_alloc] at this
    exact this

set_option maxHeartbeats 1000000 in
set_option maxRecDepth 100000 in
theorem write_is (nm t : ByteArray) (w : World) (hn : nm.size ≤ maxLen) (ht : t.size ≤ maxLen) (h : IsFs w fb s F) :
    Calls Tryz.prog 11 #[.pointer (some ⟨fb, 0, none⟩), .string nm, .string t] w fun e w' => e = .returned (.int .i64 (sWrite s nm.data.toList t.data.toList).1) ∧ Went F fb (sWrite s nm.data.toList t.data.toList).2 w w' := by
  obtain ⟨V, hB⟩ := laid5 w (some ⟨fb, 0, none⟩) nm t
  have hlt : ∀ x, F x → x < w.heap.size := by obtain ⟨mb, D, G, dp, h⟩ := h; exact h.lt
  have C : Calls Tryz.prog 25 #[.slice (some ⟨w.heap.size + 3, 0, none⟩) 5 5] (Laid5 w (some ⟨fb, 0, none⟩) nm t) fun e w' => e = .returned (.int .i64 (sWrite s nm.data.toList t.data.toList).1) ∧ Went F fb (sWrite s nm.data.toList t.data.toList).2 w w' :=
    (written w.heap.size nm t _ hn ht hlt V (h.below hB)).mono fun e w' ⟨z, he, hz, hW⟩ => ⟨by rw [he, hz], Wentz.after hW hB⟩
  unfold Laid5 lits at C
  have HC := Lib.hid C
  have hmf : ∀ (fn : Fn) (first cap : Array Value) (w : World), (Instr.makeFunc fn first cap).run Tryz.prog w = .ok (.func fn first cap) w := fun _ _ _ _ => rfl
  clear C h V hB hlt
  go_enter Tryz.func11, Tryz.ntmps11
  go_wp2_with (go_at_call 25; refine HC.out.mono ?_; rintro e w' ⟨rfl, hW⟩)
  go_ret
  exact ⟨rfl, hW⟩
set_option maxHeartbeats 1000000 in
set_option maxRecDepth 100000 in
theorem write_no (p : Option Addr) (nm t : ByteArray) (w : World) (h : NoFs w p) :
    Calls Tryz.prog 11 #[.pointer p, .string nm, .string t] w fun e w' => e = .returned (.int .i64 1) ∧ Below w.heap.size w w' := by
  obtain ⟨V, hB⟩ := laid5 w p nm t
  have C : Calls Tryz.prog 25 #[.slice (some ⟨w.heap.size + 3, 0, none⟩) 5 5] (Laid5 w p nm t) fun e w' => e = .returned (.int .i64 1) ∧ Below w.heap.size w w' :=
    (written_no w.heap.size p nm t _ V (h.below hB)).mono fun e w' ⟨z, he, hz, hW⟩ => ⟨by rw [he, hz], by rw [← hW]; exact hB⟩
  unfold Laid5 lits at C
  have HC := Lib.hid C
  have hmf : ∀ (fn : Fn) (first cap : Array Value) (w : World), (Instr.makeFunc fn first cap).run Tryz.prog w = .ok (.func fn first cap) w := fun _ _ _ _ => rfl
  clear C h V hB
  go_enter Tryz.func11, Tryz.ntmps11
  go_wp2_with (go_at_call 25; refine HC.out.mono ?_; rintro e w' ⟨rfl, hW⟩)
  go_ret
  exact ⟨rfl, hW⟩
end
end Go.Proofs.YtlbhegicapggeaaGreat.sav
