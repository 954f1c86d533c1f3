/- Files: a stroke as a whole. -/
import Derived.Test.YtlbhegicapggeaaGreatFilStrike
namespace Go.Proofs.YtlbhegicapggeaaGreat.fil
open Go.RowKit Go.Lib Go.Maps Go.WideMaps
set_option linter.unusedVariables false
set_option linter.unusedSimpArgs false
set_option linter.unnecessarySimpa false
set_option linter.unusedSectionVars false

section
variable {w w' : World} {F : Nat → Prop} {fb mb : Nat} {D : DataW Unit} {G : List Gf} {dp : Option Addr} {s : St}

theorem strikeD (be bf bs K1 K2 : Nat) (c1 c2 : Array Value) (err : Int) (early : Bool) (t : List Fl) (u : FrameMode) (w : World) (h : Fs w fb mb D G dp s F)
    (h1 : At w be 26 #[.int .i64 err]) (h2 : Box w bf 25 (.pointer (some ⟨fb, 0, none⟩))) (h3 : At w bs 80 #[.func (.func K1) #[] c1, .func (.func K2) #[] c2, .bool early])
    (n1 : ¬ F be) (n2 : ¬ F bf) (n3 : ¬ F bs) (hK2 : ∀ W, (callFunc K2 c2).run Tryz.prog W = .ok (.enter K2 c2) W)
    (hD : err = 0 → ∀ q W dp' s0, Fz q W fb mb D G dp' s0 F → s0.files = s.files → s0.cap = s.cap → Turned F w W → Calls Tryz.prog K2 c2 W fun e W' => e = .returned (.tuple #[]) ∧ Wentz q F fb { s0 with files := t } W W') :
    CallsD Tryz.prog 81 #[.pointer (some ⟨be, 0, none⟩), .pointer (some ⟨bf, 0, none⟩), .pointer (some ⟨bs, 0, none⟩)] u w fun e u' w' => u' = u ∧ (e = .returned (.tuple #[]) ∧ Struck F fb be (strokeOn s err early t) w w') := by
  by_cases he : err = 0
  · subst he
    have hD := hD rfl
    rcases hd : s.due with _ | ⟨_ | n, ks⟩
    · exact strikeNone be bf bs K1 K2 c1 c2 early t u w h hd h1 h2 h3 n1 hK2 (hD true w dp s h rfl rfl (Turned.refl _ _))
    · cases early
      · exact strikeLate be bf bs K1 K2 c1 c2 t u w h hd h1 h2 h3 n1 n2 n3
      · exact strikeEarly be bf bs K1 K2 c1 c2 t u w h hd h1 h2 h3 n1 n2 n3 hK2 (fun W dp' s0 => hD false W dp' s0)
    · exact strikeSucc be bf bs K1 K2 c1 c2 early t u w h hd h1 h2 h3 n1 n2 n3 hK2 (fun W dp' s0 => hD true W dp' s0)
  · exact strikeErr be bf bs err early t u w h h1 he

/-- The three variables of a stroke's own. -/
def Vars3 (w : World) (fb : Nat) (f1 f2 : Value) (early : Bool) (err : Int) : World :=
  ((w.alloc (.cells #[.pointer (some ⟨fb, 0, none⟩)] 25)).alloc (.cells #[f1, f2, .bool early] 80)).alloc (.cells #[.int .i64 err] 26)
structure Is3 (w : World) (fb : Nat) (f1 f2 : Value) (early : Bool) (err : Int) (W : World) : Prop where
  below : Below w.heap.size w W
  sys : At W w.heap.size 25 #[.pointer (some ⟨fb, 0, none⟩)]
  stroke : At W (w.heap.size + 1) 80 #[f1, f2, .bool early]
  err : At W (w.heap.size + 2) 26 #[.int .i64 err]
theorem vars3 (w : World) (fb : Nat) (f1 f2 : Value) (early : Bool) (err : Int) : Is3 w fb f1 f2 early err (Vars3 w fb f1 f2 early err) := by
  refine ⟨(((Below.refl _ w).alloc (Nat.le_refl _) _).alloc (by simp) _).alloc (by simp; omega) _, ((At.new w _ _).alloc _).alloc _, ?_, ?_⟩
  · have := (At.new (w.alloc (.cells #[.pointer (some ⟨fb, 0, none⟩)] 25)) 80 #[f1, f2, .bool early]).alloc (.cells #[.int .i64 err] 26)
    rw [World.size_alloc] at this
    exact this
  · have := At.new ((w.alloc (.cells #[.pointer (some ⟨fb, 0, none⟩)] 25)).alloc (.cells #[f1, f2, .bool early] 80)) 26 #[.int .i64 err]
    rw [World.size_alloc, World.size_alloc] at this
    exact this
theorem Is3.next {f1 f2 : Value} {early : Bool} {err : Int} {W W' : World} (h : Is3 w fb f1 f2 early err W) (hB : Below W.heap.size W W') : Is3 w fb f1 f2 early err W' :=
  ⟨h.below.trans (hB.mono h.below.size), h.sys.same (hB.block _ h.sys.lt), h.stroke.same (hB.block _ h.stroke.lt), h.err.same (hB.block _ h.err.lt)⟩
theorem Is3.set {f1 f2 : Value} {early : Bool} {err : Int} {W : World} (h : Is3 w fb f1 f2 early err W) (e : Int) : Is3 w fb f1 f2 early e (W.setCell ⟨w.heap.size + 2, 0, none⟩ (.int .i64 e)) :=
  ⟨h.below.setCell (by simp) _, h.sys.far (by simp) _, h.stroke.far (by simp) _, At.set h.err 0 _⟩

/-- What the deferred function leaves, for the stroke as a whole. -/
def Left3 (F : Nat → Prop) (fb be : Nat) (r : Int × St) (w w' : World) : Prop := w'.cell? ⟨be, 0, none⟩ = some (.int .i64 r.1) ∧ Went F fb r.2 w w'
theorem door3 (K1 K2 : Nat) (c1 c2 : Array Value) (err : Int) (early : Bool) (t : List Fl) (u : FrameMode) (w W : World) (h : Fs w fb mb D G dp s F) (h3 : Is3 w fb (.func (.func K1) #[] c1) (.func (.func K2) #[] c2) early err W)
    (hK2 : ∀ W, (callFunc K2 c2).run Tryz.prog W = .ok (.enter K2 c2) W)
    (hD : err = 0 → ∀ q W dp' s0, Fz q W fb mb D G dp' s0 F → s0.files = s.files → s0.cap = s.cap → Turned F w W → Calls Tryz.prog K2 c2 W fun e W' => e = .returned (.tuple #[]) ∧ Wentz q F fb { s0 with files := t } W W') :
    CallsD Tryz.prog 81 #[.pointer (some ⟨w.heap.size + 2, 0, none⟩), .pointer (some ⟨w.heap.size, 0, none⟩), .pointer (some ⟨w.heap.size + 1, 0, none⟩)] u W fun e u' w' => u' = u ∧ (e = .returned (.tuple #[]) ∧ Left3 F fb (w.heap.size + 2) (strokeOn s err early t) w w') := by
  have hn : ∀ b, F b → b < w.heap.size := h.lt
  refine (strikeD (w.heap.size + 2) w.heap.size (w.heap.size + 1) K1 K2 c1 c2 err early t u W (h.below h3.below) h3.err h3.sys h3.stroke (fun hf => by have := hn _ hf; omega) (fun hf => by have := hn _ hf; omega) (fun hf => by have := hn _ hf; omega) hK2
    (fun he q W' dp' s0 hz hf hc hT => hD he q W' dp' s0 hz hf hc ((Turned.of_below h3.below F).trans hT (fun b hb => .inl hb)))).mono ?_
  rintro e u' w' ⟨rfl, rfl, hS⟩
  refine ⟨rfl, rfl, hS.1.cell 0, ?_⟩
  obtain ⟨_, hT, F', hF', hX⟩ := hS
  refine ⟨(Turned.of_below h3.below F).trans hT (fun b hb => hb.imp id (fun e => by omega)), F', fun b hb => ?_, hX⟩
  rcases hF' b hb with h2 | h2
  · exact .inl h2
  · have := h3.below.size; exact .inr (by omega)

set_option maxHeartbeats 2000000 in
set_option maxRecDepth 100000 in
theorem strike_is (K1 K2 : Nat) (c1 c2 : Array Value) (err : Int) (early : Bool) (t : List Fl) (w : World) (h : Fs w fb mb D G dp s F)
    (hK1 : ∀ W, (callFunc K1 c1).run Tryz.prog W = .ok (.enter K1 c1) W) (hK2 : ∀ W, (callFunc K2 c2).run Tryz.prog W = .ok (.enter K2 c2) W)
    (hA : ∀ W, Below w.heap.size w W → Fs W fb mb D G dp s F → Calls Tryz.prog K1 c1 W fun e W' => e = .returned (.int .i64 err) ∧ Below W.heap.size W W')
    (hD : err = 0 → ∀ q W dp' s0, Fz q W fb mb D G dp' s0 F → s0.files = s.files → s0.cap = s.cap → Turned F w W → Calls Tryz.prog K2 c2 W fun e W' => e = .returned (.tuple #[]) ∧ Wentz q F fb { s0 with files := t } W W') :
    Calls Tryz.prog 59 #[.pointer (some ⟨fb, 0, none⟩), .agg #[.func (.func K1) #[] c1, .func (.func K2) #[] c2, .bool early]] w fun e w' =>
      e = .returned (.int .i64 (stroke s err early t).1) ∧ Went F fb (stroke s err early t).2 w w' := by
  have V0 := vars3 w fb (.func (.func K1) #[] c1) (.func (.func K2) #[] c2) early 0
  have U := Lib.hid (useless_is _ (h.below V0.below))
  have hmf : ∀ (fn : Fn) (first cap : Array Value) (w : World), (Instr.makeFunc fn first cap).run Tryz.prog w = .ok (.func fn first cap) w := fun _ _ _ _ => rfl
  rw [stroke_on]
  unfold down at U
  by_cases ho : s.off = true
  · rw [if_pos ho] at U
    rw [if_pos ho]
    have DR := Lib.hid (fun u => door3 K1 K2 c1 c2 51 early t u w _ h (vars3 w fb (.func (.func K1) #[] c1) (.func (.func K2) #[] c2) early 51) hK2 (fun e => by cases e))
    clear h hA hD V0 hK1 hK2
    unfold Vars3 at U DR
    go_enter_defers Tryz.func59, Tryz.ntmps59
    go_wp2_with (go_at_call 56; refine U.out.mono ?_; rintro e w' ⟨rfl, rfl⟩)
    refine leaves_cons (f := 81) (args := #[.pointer (some ⟨w.heap.size + 2, 0, none⟩), .pointer (some ⟨w.heap.size, 0, none⟩), .pointer (some ⟨w.heap.size + 1, 0, none⟩)]) (by simp) (by simp [go_sem]) ?_
    refine (DR.out _).mono ?_
    rintro e u' w2 ⟨rfl, rfl, hL⟩
    have k := hL.1
    simp [Leaves, settle, results, Tryz.results59, go_sem, k]
    exact hL.2
  · rw [if_neg ho] at U
    rw [if_neg ho]
    have CA := Lib.hid (hA _ V0.below (h.below V0.below))
    have HN := Lib.hid (fun W' (hB : Below (Vars3 w fb (.func (.func K1) #[] c1) (.func (.func K2) #[] c2) early 0).heap.size (Vars3 w fb (.func (.func K1) #[] c1) (.func (.func K2) #[] c2) early 0) W') => V0.next hB)
    have DR := Lib.hid (fun u W h3 => door3 K1 K2 c1 c2 err early t u w W h h3 hK2 hD)
    clear h hA hD V0 hK2
    unfold Vars3 at U CA HN
    go_enter_defers Tryz.func59, Tryz.ntmps59
    go_wp2_with (go_at_call 56; refine U.out.mono ?_; rintro e w' ⟨rfl, rfl⟩)
    refine CA.out.mono ?_
    rintro e w2 ⟨rfl, hB2⟩
    have h3 := HN.out w2 hB2
    have k1 : w2.cell? ⟨w.heap.size + 2, 0, none⟩ = some (.int .i64 0) := h3.err.cell 0
    have f1 : w2.frozen? ⟨w.heap.size + 2, 0, none⟩ = false := h3.err.frozen 0
    have DR2 := Lib.hid (fun u => DR.out u _ (h3.set err))
    clear hB2 h3 DR CA HN U
    go_wp2
    refine leaves_cons (f := 81) (args := #[.pointer (some ⟨w.heap.size + 2, 0, none⟩), .pointer (some ⟨w.heap.size, 0, none⟩), .pointer (some ⟨w.heap.size + 1, 0, none⟩)]) (by simp) (by simp [go_sem]) ?_
    refine (DR2.out _).mono ?_
    rintro e u' w3 ⟨rfl, rfl, hL⟩
    have k := hL.1
    simp [Leaves, settle, results, Tryz.results59, go_sem, k]
    exact hL.2
end
end Go.Proofs.YtlbhegicapggeaaGreat.fil
