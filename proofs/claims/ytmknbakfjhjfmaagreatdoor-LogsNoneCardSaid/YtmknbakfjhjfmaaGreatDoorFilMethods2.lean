/- Files: the other four strokes. -/
import Derived.Test.YtmknbakfjhjfmaaGreatDoorFilStrike
/-! Files: a stroke as a whole. -/
namespace Go.Proofs.YtmknbakfjhjfmaaGreatDoor.fil
open Go.RowKit Go.Lib Go.Maps Go.WideMaps
set_option linter.unusedVariables false
set_option linter.unusedSimpArgs false
set_option linter.unnecessarySimpa false
set_option linter.unusedSectionVars false

section
variable {w w' : World} {F : Nat → Prop} {fb mb : Nat} {D : DataW Unit} {G : List Gf} {dp : Option Addr} {s : St}

theorem strikeD (be bf bs K1 K2 : Nat) (c1 c2 : Array Value) (err : Int) (early : Bool) (t : List Fl) (u : FrameMode) (w : World) (h : Fs w fb mb D G dp s F)
    (h1 : At w be 29 #[.int .i64 err]) (h2 : Box w bf 32 (.pointer (some ⟨fb, 0, none⟩))) (h3 : At w bs 87 #[.func (.func K1) #[] c1, .func (.func K2) #[] c2, .bool early])
    (n1 : ¬ F be) (n2 : ¬ F bf) (n3 : ¬ F bs) (hK2 : ∀ W, (callFunc K2 c2).run Tryz.prog W = .ok (.enter K2 c2) W)
    (hD : err = 0 → ∀ q W dp' s0, Fz q W fb mb D G dp' s0 F → s0.files = s.files → s0.cap = s.cap → Turned F w W → Calls Tryz.prog K2 c2 W fun e W' => e = .returned (.tuple #[]) ∧ Wentz q F fb { s0 with files := t } W W') :
    CallsD Tryz.prog 70 #[.pointer (some ⟨be, 0, none⟩), .pointer (some ⟨bf, 0, none⟩), .pointer (some ⟨bs, 0, none⟩)] u w fun e u' w' => u' = u ∧ (e = .returned (.tuple #[]) ∧ Struck F fb be (strokeOn s err early t) w w') := by
  by_cases he : err = 0
  · subst he
    have hD := hD rfl
    rcases hd : s.due with _ | ⟨_ | n, ks⟩
    · exact strikeNone be bf bs K1 K2 c1 c2 early t u w h hd h1 h2 h3 n1 hK2 (hD true w dp s h rfl rfl (Turned.refl _ _))
    · cases early
      · exact strikeLate be bf bs K1 K2 c1 c2 t u w h hd h1 h2 h3 n1 n2 n3
      · exact strikeEarly be bf bs K1 K2 c1 c2 t u w h hd h1 h2 h3 n1 n2 n3 hK2 (fun W dp' s0 => hD false W dp' s0)
    · exact strikeSucc be bf bs K1 K2 c1 c2 early t u w h hd h1 h2 h3 n1 n2 n3 hK2 (fun W dp' s0 => hD true W dp' s0)
  · exact strikeErr be bf bs err early t u w h h1 he

/-- The three variables of a stroke's own. -/
def Vars3 (w : World) (fb : Nat) (f1 f2 : Value) (early : Bool) (err : Int) : World :=
  ((w.alloc (.cells #[.pointer (some ⟨fb, 0, none⟩)] 32)).alloc (.cells #[f1, f2, .bool early] 87)).alloc (.cells #[.int .i64 err] 29)
structure Is3 (w : World) (fb : Nat) (f1 f2 : Value) (early : Bool) (err : Int) (W : World) : Prop where
  below : Below w.heap.size w W
  sys : At W w.heap.size 32 #[.pointer (some ⟨fb, 0, none⟩)]
  stroke : At W (w.heap.size + 1) 87 #[f1, f2, .bool early]
  err : At W (w.heap.size + 2) 29 #[.int .i64 err]
theorem vars3 (w : World) (fb : Nat) (f1 f2 : Value) (early : Bool) (err : Int) : Is3 w fb f1 f2 early err (Vars3 w fb f1 f2 early err) := by
  refine ⟨(((Below.refl _ w).alloc (Nat.le_refl _) _).alloc (by simp) _).alloc (by simp; omega) _, ((At.new w _ _).alloc _).alloc _, ?_, ?_⟩
  · have := (At.new (w.alloc (.cells #[.pointer (some ⟨fb, 0, none⟩)] 32)) 87 #[f1, f2, .bool early]).alloc (.cells #[.int .i64 err] 29)
    rw [World.size_alloc] at this
    exact this
  · have := At.new ((w.alloc (.cells #[.pointer (some ⟨fb, 0, none⟩)] 32)).alloc (.cells #[f1, f2, .bool early] 87)) 29 #[.int .i64 err]
    rw [World.size_alloc, World.size_alloc] at this
    exact this
theorem Is3.next {f1 f2 : Value} {early : Bool} {err : Int} {W W' : World} (h : Is3 w fb f1 f2 early err W) (hB : Below W.heap.size W W') : Is3 w fb f1 f2 early err W' :=
  ⟨h.below.trans (hB.mono h.below.size), h.sys.same (hB.block _ h.sys.lt), h.stroke.same (hB.block _ h.stroke.lt), h.err.same (hB.block _ h.err.lt)⟩
theorem Is3.set {f1 f2 : Value} {early : Bool} {err : Int} {W : World} (h : Is3 w fb f1 f2 early err W) (e : Int) : Is3 w fb f1 f2 early e (W.setCell ⟨w.heap.size + 2, 0, none⟩ (.int .i64 e)) :=
  ⟨h.below.setCell (by simp) _, h.sys.far (by simp) _, h.stroke.far (by simp) _, At.set h.err 0 _⟩

/-- What the deferred function leaves, for the stroke as a whole. -/
def Left3 (F : Nat → Prop) (fb be : Nat) (r : Int × St) (w w' : World) : Prop := w'.cell? ⟨be, 0, none⟩ = some (.int .i64 r.1) ∧ Went F fb r.2 w w'
theorem door3 (K1 K2 : Nat) (c1 c2 : Array Value) (err : Int) (early : Bool) (t : List Fl) (u : FrameMode) (w W : World) (h : Fs w fb mb D G dp s F) (h3 : Is3 w fb (.func (.func K1) #[] c1) (.func (.func K2) #[] c2) early err W)
    (hK2 : ∀ W, (callFunc K2 c2).run Tryz.prog W = .ok (.enter K2 c2) W)
    (hD : err = 0 → ∀ q W dp' s0, Fz q W fb mb D G dp' s0 F → s0.files = s.files → s0.cap = s.cap → Turned F w W → Calls Tryz.prog K2 c2 W fun e W' => e = .returned (.tuple #[]) ∧ Wentz q F fb { s0 with files := t } W W') :
    CallsD Tryz.prog 70 #[.pointer (some ⟨w.heap.size + 2, 0, none⟩), .pointer (some ⟨w.heap.size, 0, none⟩), .pointer (some ⟨w.heap.size + 1, 0, none⟩)] u W fun e u' w' => u' = u ∧ (e = .returned (.tuple #[]) ∧ Left3 F fb (w.heap.size + 2) (strokeOn s err early t) w w') := by
  have hn : ∀ b, F b → b < w.heap.size := h.lt
  refine (strikeD (w.heap.size + 2) w.heap.size (w.heap.size + 1) K1 K2 c1 c2 err early t u W (h.below h3.below) h3.err h3.sys h3.stroke (fun hf => by have := hn _ hf; omega) (fun hf => by have := hn _ hf; omega) (fun hf => by have := hn _ hf; omega) hK2
    (fun he q W' dp' s0 hz hf hc hT => hD he q W' dp' s0 hz hf hc ((Turned.of_below h3.below F).trans hT (fun b hb => .inl hb)))).mono ?_
  rintro e u' w' ⟨rfl, rfl, hS⟩
  refine ⟨rfl, rfl, hS.1.cell 0, ?_⟩
  obtain ⟨_, hT, F', hF', hX⟩ := hS
  refine ⟨(Turned.of_below h3.below F).trans hT (fun b hb => hb.imp id (fun e => by omega)), F', fun b hb => ?_, hX⟩
  rcases hF' b hb with h2 | h2
  · exact .inl h2
  · have := h3.below.size; exact .inr (by omega)

set_option maxHeartbeats 2000000 in
set_option maxRecDepth 100000 in
theorem strike_is (K1 K2 : Nat) (c1 c2 : Array Value) (err : Int) (early : Bool) (t : List Fl) (w : World) (h : Fs w fb mb D G dp s F)
    (hK1 : ∀ W, (callFunc K1 c1).run Tryz.prog W = .ok (.enter K1 c1) W) (hK2 : ∀ W, (callFunc K2 c2).run Tryz.prog W = .ok (.enter K2 c2) W)
    (hA : ∀ W, Below w.heap.size w W → Fs W fb mb D G dp s F → Calls Tryz.prog K1 c1 W fun e W' => e = .returned (.int .i64 err) ∧ Below W.heap.size W W')
    (hD : err = 0 → ∀ q W dp' s0, Fz q W fb mb D G dp' s0 F → s0.files = s.files → s0.cap = s.cap → Turned F w W → Calls Tryz.prog K2 c2 W fun e W' => e = .returned (.tuple #[]) ∧ Wentz q F fb { s0 with files := t } W W') :
    Calls Tryz.prog 43 #[.pointer (some ⟨fb, 0, none⟩), .agg #[.func (.func K1) #[] c1, .func (.func K2) #[] c2, .bool early]] w fun e w' =>
      e = .returned (.int .i64 (stroke s err early t).1) ∧ Went F fb (stroke s err early t).2 w w' := by
  have V0 := vars3 w fb (.func (.func K1) #[] c1) (.func (.func K2) #[] c2) early 0
  have U := Lib.hid (useless_is _ (h.below V0.below))
  have hmf : ∀ (fn : Fn) (first cap : Array Value) (w : World), (Instr.makeFunc fn first cap).run Tryz.prog w = .ok (.func fn first cap) w := fun _ _ _ _ => rfl
  rw [stroke_on]
  unfold down at U
  by_cases ho : s.off = true
  · rw [if_pos ho] at U
    rw [if_pos ho]
    have DR := Lib.hid (fun u => door3 K1 K2 c1 c2 51 early t u w _ h (vars3 w fb (.func (.func K1) #[] c1) (.func (.func K2) #[] c2) early 51) hK2 (fun e => by cases e))
    clear h hA hD V0 hK1 hK2
    unfold Vars3 at U DR
    go_enter_defers Tryz.func43, Tryz.ntmps43
    go_wp2_with (go_at_call 31; refine U.out.mono ?_; rintro e w' ⟨rfl, rfl⟩)
    refine leaves_cons (f := 70) (args := #[.pointer (some ⟨w.heap.size + 2, 0, none⟩), .pointer (some ⟨w.heap.size, 0, none⟩), .pointer (some ⟨w.heap.size + 1, 0, none⟩)]) (by simp) (by simp [go_sem]) ?_
    refine (DR.out _).mono ?_
    rintro e u' w2 ⟨rfl, rfl, hL⟩
    have k := hL.1
    simp [Leaves, settle, results, Tryz.results43, go_sem, k]
    exact hL.2
  · rw [if_neg ho] at U
    rw [if_neg ho]
    have CA := Lib.hid (hA _ V0.below (h.below V0.below))
    have HN := Lib.hid (fun W' (hB : Below (Vars3 w fb (.func (.func K1) #[] c1) (.func (.func K2) #[] c2) early 0).heap.size (Vars3 w fb (.func (.func K1) #[] c1) (.func (.func K2) #[] c2) early 0) W') => V0.next hB)
    have DR := Lib.hid (fun u W h3 => door3 K1 K2 c1 c2 err early t u w W h h3 hK2 hD)
    clear h hA hD V0 hK2
    unfold Vars3 at U CA HN
    go_enter_defers Tryz.func43, Tryz.ntmps43
    go_wp2_with (go_at_call 31; refine U.out.mono ?_; rintro e w' ⟨rfl, rfl⟩)
    refine CA.out.mono ?_
    rintro e w2 ⟨rfl, hB2⟩
    have h3 := HN.out w2 hB2
    have k1 : w2.cell? ⟨w.heap.size + 2, 0, none⟩ = some (.int .i64 0) := h3.err.cell 0
    have f1 : w2.frozen? ⟨w.heap.size + 2, 0, none⟩ = false := h3.err.frozen 0
    have DR2 := Lib.hid (fun u => DR.out u _ (h3.set err))
    clear hB2 h3 DR CA HN U
    go_wp2
    refine leaves_cons (f := 70) (args := #[.pointer (some ⟨w.heap.size + 2, 0, none⟩), .pointer (some ⟨w.heap.size, 0, none⟩), .pointer (some ⟨w.heap.size + 1, 0, none⟩)]) (by simp) (by simp [go_sem]) ?_
    refine (DR2.out _).mono ?_
    rintro e u' w3 ⟨rfl, rfl, hL⟩
    have k := hL.1
    simp [Leaves, settle, results, Tryz.results43, go_sem, k]
    exact hL.2
end
end Go.Proofs.YtmknbakfjhjfmaaGreatDoor.fil

/-! Files: the five strokes. -/
namespace Go.Proofs.YtmknbakfjhjfmaaGreatDoor.fil
open Go.RowKit Go.Lib Go.Maps Go.WideMaps
set_option linter.unusedVariables false
set_option linter.unusedSimpArgs false
set_option linter.unnecessarySimpa false
set_option linter.unusedSectionVars false

section
variable {w w' : World} {F : Nat → Prop} {fb mb : Nat} {D : DataW Unit} {G : List Gf} {dp : Option Addr} {s : St}

theorem NoFs.below {p : Option Addr} (h : NoFs w p) (hB : Below w.heap.size w w') : NoFs w' p := by
  rcases h with h | ⟨fb, e, h⟩
  · exact .inl h
  · exact .inr ⟨fb, e, h.same (hB.block _ h.lt)⟩

theorem strikeNo (be bf bs : Nat) (u : FrameMode) (w : World) (h1 : w.cell? ⟨be, 0, none⟩ = some (.int .i64 1)) :
    CallsD Tryz.prog 70 #[.pointer (some ⟨be, 0, none⟩), .pointer (some ⟨bf, 0, none⟩), .pointer (some ⟨bs, 0, none⟩)] u w fun e u' w' => u' = u ∧ (e = .returned (.tuple #[]) ∧ w = w') := by
  go_enter_d Tryz.func70, Tryz.ntmps70
  go_wp2
  first | go_end0 | refine bodyPost_ret (results_none rfl _ _ _) rfl ?_
  exact ⟨rfl, rfl⟩

set_option maxHeartbeats 1000000 in
set_option maxRecDepth 100000 in
theorem strike_no (p : Option Addr) (f1 f2 : Value) (early : Bool) (w : World) (h : NoFs w p) (h1 : f1.oneCell' = true) (h2 : f2.oneCell' = true) :
    Calls Tryz.prog 43 #[.pointer p, .agg #[f1, f2, .bool early]] w fun e w' => e = .returned (.int .i64 1) ∧ Below w.heap.size w w' := by
  have hB : ∀ o1 o2 o3, Below w.heap.size w (((w.alloc o1).alloc o2).alloc o3) := fun o1 o2 o3 => (((Below.refl _ w).alloc (Nat.le_refl _) _).alloc (by simp) _).alloc (by simp; omega) _
  have U := Lib.hid (fun o1 o2 o3 => useless_no p _ (h.below (hB o1 o2 o3)))
  have HB := Lib.hid hB
  have hmf : ∀ (fn : Fn) (first cap : Array Value) (w : World), (Instr.makeFunc fn first cap).run Tryz.prog w = .ok (.func fn first cap) w := fun _ _ _ _ => rfl
  clear h hB
  go_enter_defers Tryz.func43, Tryz.ntmps43
  go_wp2_with (go_at_call 31; refine (U.out _ _ _).mono ?_; rintro e w' ⟨rfl, rfl⟩)
  refine leaves_cons (f := 70) (args := #[.pointer (some ⟨w.heap.size + 2, 0, none⟩), .pointer (some ⟨w.heap.size, 0, none⟩), .pointer (some ⟨w.heap.size + 1, 0, none⟩)]) (by simp) (by simp [go_sem]) ?_
  refine (strikeNo _ _ _ _ _ (by simp [go_sem])).mono ?_
  rintro e u' w2 ⟨rfl, rfl, rfl⟩
  simp [Leaves, settle, results, Tryz.results43, go_sem]
  exact HB.out _ _ _

/-! ### Append -/
theorem errAppend_congr {s s0 : St} (h1 : s0.files = s.files) (h2 : s0.cap = s.cap) (nm : List UInt8) (m : Nat) : errAppend s0 nm m = errAppend s nm m := by unfold errAppend; rw [h1, h2]
theorem doAppend_congr {s s0 : St} (h1 : s0.files = s.files) (nm t : List UInt8) : doAppend s0 nm t = doAppend s nm t := by unfold doAppend; rw [h1]
theorem errTrunc_congr {s s0 : St} (h1 : s0.files = s.files) (nm : List UInt8) (n : Int) : errTrunc s0 nm n = errTrunc s nm n := by unfold errTrunc; rw [h1]
theorem doTrunc_congr {s s0 : St} (h1 : s0.files = s.files) (nm : List UInt8) (n : Int) : doTrunc s0 nm n = doTrunc s nm n := by unfold doTrunc; rw [h1]
theorem errThere_congr {s s0 : St} (h1 : s0.files = s.files) (nm : List UInt8) : errThere s0 nm = errThere s nm := by unfold errThere; rw [h1]
theorem doSync_congr {s s0 : St} (h1 : s0.files = s.files) (nm : List UInt8) : doSync s0 nm = doSync s nm := by unfold doSync; rw [h1]
theorem errRename_congr {s s0 : St} (h1 : s0.files = s.files) (a b : List UInt8) : errRename s0 a b = errRename s a b := by unfold errRename; rw [h1]
theorem doRename_congr {s s0 : St} (h1 : s0.files = s.files) (a b : List UInt8) : doRename s0 a b = doRename s a b := by unfold doRename; rw [h1]

/-- Three variables of a method's own, captured by its two function literals. -/
structure Own3 (w : World) (v1 : Value) (t2 : TypeId) (v2 : Value) (t3 : TypeId) (v3 : Value) (W : World) : Prop where
  below : Below w.heap.size w W
  b1 : Box W w.heap.size 32 v1
  b2 : Box W (w.heap.size + 1) t2 v2
  b3 : Box W (w.heap.size + 2) t3 v3
theorem own3 (w : World) (v1 : Value) (t2 : TypeId) (v2 : Value) (t3 : TypeId) (v3 : Value) : Own3 w v1 t2 v2 t3 v3 (((w.alloc (.cells #[v1] 32)).alloc (.cells #[v2] t2)).alloc (.cells #[v3] t3)) := by
  refine ⟨(((Below.refl _ w).alloc (Nat.le_refl _) _).alloc (by simp) _).alloc (by simp; omega) _, ((At.new w _ _).alloc _).alloc _, ?_, ?_⟩
  · have := (At.new (w.alloc (.cells #[v1] 32)) t2 #[v2]).alloc (.cells #[v3] t3)
    rw [World.size_alloc] at this
    exact this
  · have := At.new ((w.alloc (.cells #[v1] 32)).alloc (.cells #[v2] t2)) t3 #[v3]
    rw [World.size_alloc, World.size_alloc] at this
    exact this
theorem Own3.turned {v1 : Value} {t2 : TypeId} {v2 : Value} {t3 : TypeId} {v3 : Value} {W W' : World} (h : Own3 w v1 t2 v2 t3 v3 W) (hn : ∀ b, F b → b < w.heap.size) (hT : Turned F W W') :
    Box W' w.heap.size 32 v1 ∧ Box W' (w.heap.size + 1) t2 v2 ∧ Box W' (w.heap.size + 2) t3 v3 :=
  ⟨hT.at h.b1 (fun hf => by have := hn _ hf; omega), hT.at h.b2 (fun hf => by have := hn _ hf; omega), hT.at h.b3 (fun hf => by have := hn _ hf; omega)⟩
theorem Own3.boxes {v1 : Value} {t2 : TypeId} {v2 : Value} {t3 : TypeId} {v3 : Value} {W W' : World} (h : Own3 w v1 t2 v2 t3 v3 W) (hB : Below W.heap.size W W') :
    Box W' w.heap.size 32 v1 ∧ Box W' (w.heap.size + 1) t2 v2 ∧ Box W' (w.heap.size + 2) t3 v3 := ⟨h.b1.below hB, h.b2.below hB, h.b3.below hB⟩
theorem Wentz.after {q : Bool} {W : World} (h : Wentz q F fb s W w') (hB : Below w.heap.size w W) : Wentz q F fb s w w' := Wentz.trans (Turned.of_below hB F) (fun _ hb => .inl hb) h

set_option maxHeartbeats 1000000 in
set_option maxRecDepth 100000 in
theorem append_is (nm t : ByteArray) (w : World) (hn : nm.size ≤ maxLen) (ht : t.size ≤ maxLen) (h : IsFs w fb s F) :
    Calls Tryz.prog 22 #[.pointer (some ⟨fb, 0, none⟩), .string nm, .string t] w fun e w' => e = .returned (.int .i64 (sAppend s nm.data.toList t.data.toList).1) ∧ Went F fb (sAppend s nm.data.toList t.data.toList).2 w w' := by
  obtain ⟨mb, D, G, dp, h⟩ := h
  have V := own3 w (.pointer (some ⟨fb, 0, none⟩)) 9 (.string nm) 9 (.string t)
  have C := strike_is (t := doAppend s nm.data.toList t.data.toList) (err := errAppend s nm.data.toList t.data.toList.length) 44 47
    #[.pointer (some ⟨w.heap.size + 1, 0, none⟩), .pointer (some ⟨w.heap.size, 0, none⟩), .pointer (some ⟨w.heap.size + 2, 0, none⟩)] #[.pointer (some ⟨w.heap.size, 0, none⟩), .pointer (some ⟨w.heap.size + 1, 0, none⟩), .pointer (some ⟨w.heap.size + 2, 0, none⟩)]
    true _ (h.below V.below) (fun W => by simp [go_sem]) (fun W => by simp [go_sem])
    (fun W hB hF => by
      obtain ⟨x1, x2, x3⟩ := V.boxes hB
      exact appendA _ _ _ nm t W hn ht x1 x2 x3 hF)
    (fun he q W dp' s0 hF hf hc hT => by
      obtain ⟨x1, x2, x3⟩ := V.turned h.lt hT
      have := appendD (q := q) _ _ _ nm t W hn x1 x2 x3 hF (by rw [errAppend_congr hf hc]; exact he)
      rw [doAppend_congr hf] at this
      exact this)
  have HC := Lib.hid (C.mono fun e w' hh => And.intro hh.1 (Wentz.after hh.2 V.below))
  have hmf : ∀ (fn : Fn) (first cap : Array Value) (w : World), (Instr.makeFunc fn first cap).run Tryz.prog w = .ok (.func fn first cap) w := fun _ _ _ _ => rfl
  clear C h V
  go_enter Tryz.func22, Tryz.ntmps22
  go_wp2_with (go_at_call 43; refine HC.out.mono ?_; rintro e w' ⟨rfl, hW⟩)
  go_ret
  exact ⟨rfl, hW⟩
theorem append_no (p : Option Addr) (nm t : ByteArray) (w : World) (h : NoFs w p) :
    Calls Tryz.prog 22 #[.pointer p, .string nm, .string t] w fun e w' => e = .returned (.int .i64 1) ∧ Below w.heap.size w w' := by
  have V := own3 w (.pointer p) 9 (.string nm) 9 (.string t)
  have HC := Lib.hid (fun K1 K2 c1 c2 => (strike_no p (.func (.func K1) #[] c1) (.func (.func K2) #[] c2) true _ (h.below V.below) rfl rfl).mono fun e w' hh => And.intro hh.1 (V.below.trans (hh.2.mono V.below.size)))
  have hmf : ∀ (fn : Fn) (first cap : Array Value) (w : World), (Instr.makeFunc fn first cap).run Tryz.prog w = .ok (.func fn first cap) w := fun _ _ _ _ => rfl
  clear h V
  go_enter Tryz.func22, Tryz.ntmps22
  go_wp2_with (go_at_call 43; refine (HC.out _ _ _ _).mono ?_; rintro e w' ⟨rfl, hW⟩)
  go_ret
  exact ⟨rfl, hW⟩
end
end Go.Proofs.YtmknbakfjhjfmaaGreatDoor.fil

/-! Files: the other four strokes. -/
namespace Go.Proofs.YtmknbakfjhjfmaaGreatDoor.fil
open Go.RowKit Go.Lib Go.Maps Go.WideMaps
set_option linter.unusedVariables false
set_option linter.unusedSimpArgs false
set_option linter.unnecessarySimpa false
set_option linter.unusedSectionVars false

/-- Two variables of a method's own, captured by its two function literals. -/
structure Own2 (w : World) (v1 : Value) (t2 : TypeId) (v2 : Value) (W : World) : Prop where
  below : Below w.heap.size w W
  b1 : Box W w.heap.size 32 v1
  b2 : Box W (w.heap.size + 1) t2 v2
theorem own2 (w : World) (v1 : Value) (t2 : TypeId) (v2 : Value) : Own2 w v1 t2 v2 ((w.alloc (.cells #[v1] 32)).alloc (.cells #[v2] t2)) := by
  refine ⟨((Below.refl _ w).alloc (Nat.le_refl _) _).alloc (by simp) _, (At.new w _ _).alloc _, ?_⟩
  have := At.new (w.alloc (.cells #[v1] 32)) t2 #[v2]
  rw [World.size_alloc] at this
  exact this

section
variable {w w' : World} {F : Nat → Prop} {fb mb : Nat} {D : DataW Unit} {G : List Gf} {dp : Option Addr} {s : St}
theorem Own2.turned {v1 : Value} {t2 : TypeId} {v2 : Value} {W W' : World} (h : Own2 w v1 t2 v2 W) (hn : ∀ b, F b → b < w.heap.size) (hT : Turned F W W') :
    Box W' w.heap.size 32 v1 ∧ Box W' (w.heap.size + 1) t2 v2 :=
  ⟨hT.at h.b1 (fun hf => by have := hn _ hf; omega), hT.at h.b2 (fun hf => by have := hn _ hf; omega)⟩
theorem Own2.boxes {v1 : Value} {t2 : TypeId} {v2 : Value} {W W' : World} (h : Own2 w v1 t2 v2 W) (hB : Below W.heap.size W W') :
    Box W' w.heap.size 32 v1 ∧ Box W' (w.heap.size + 1) t2 v2 := ⟨h.b1.below hB, h.b2.below hB⟩

/-! ### Sync -/
set_option maxHeartbeats 1000000 in
set_option maxRecDepth 100000 in
theorem sync_is (nm : ByteArray) (w : World) (hn : nm.size ≤ maxLen) (h : IsFs w fb s F) :
    Calls Tryz.prog 23 #[.pointer (some ⟨fb, 0, none⟩), .string nm] w fun e w' => e = .returned (.int .i64 (sSync s nm.data.toList).1) ∧ Went F fb (sSync s nm.data.toList).2 w w' := by
  obtain ⟨mb, D, G, dp, h⟩ := h
  have V := own2 w (.pointer (some ⟨fb, 0, none⟩)) 9 (.string nm)
  have C := strike_is (t := doSync s nm.data.toList) (err := errThere s nm.data.toList) 48 50 #[.pointer (some ⟨w.heap.size, 0, none⟩), .pointer (some ⟨w.heap.size + 1, 0, none⟩)] #[.pointer (some ⟨w.heap.size, 0, none⟩), .pointer (some ⟨w.heap.size + 1, 0, none⟩)]
    false _ (h.below V.below) (fun W => by simp [go_sem]) (fun W => by simp [go_sem])
    (fun W hB hF => by
      obtain ⟨x1, x2⟩ := V.boxes hB
      exact syncA _ _ nm W hn x1 x2 hF)
    (fun he q W dp' s0 hF hf hc hT => by
      obtain ⟨x1, x2⟩ := V.turned h.lt hT
      have := syncD (q := q) _ _ nm W hn x1 x2 hF (by rw [errThere_congr hf]; exact he)
      rw [doSync_congr hf] at this
      exact this)
  have HC := Lib.hid (C.mono fun e w' hh => And.intro hh.1 (Wentz.after hh.2 V.below))
  have hmf : ∀ (fn : Fn) (first cap : Array Value) (w : World), (Instr.makeFunc fn first cap).run Tryz.prog w = .ok (.func fn first cap) w := fun _ _ _ _ => rfl
  clear C h V
  go_enter Tryz.func23, Tryz.ntmps23
  go_wp2_with (go_at_call 43; refine HC.out.mono ?_; rintro e w' ⟨rfl, hW⟩)
  go_ret
  exact ⟨rfl, hW⟩
theorem sync_no (p : Option Addr) (nm : ByteArray) (w : World) (h : NoFs w p) :
    Calls Tryz.prog 23 #[.pointer p, .string nm] w fun e w' => e = .returned (.int .i64 1) ∧ Below w.heap.size w w' := by
  have V := own2 w (.pointer p) 9 (.string nm)
  have HC := Lib.hid (fun K1 K2 c1 c2 => (strike_no p (.func (.func K1) #[] c1) (.func (.func K2) #[] c2) false _ (h.below V.below) rfl rfl).mono fun e w' hh => And.intro hh.1 (V.below.trans (hh.2.mono V.below.size)))
  have hmf : ∀ (fn : Fn) (first cap : Array Value) (w : World), (Instr.makeFunc fn first cap).run Tryz.prog w = .ok (.func fn first cap) w := fun _ _ _ _ => rfl
  clear h V
  go_enter Tryz.func23, Tryz.ntmps23
  go_wp2_with (go_at_call 43; refine (HC.out _ _ _ _).mono ?_; rintro e w' ⟨rfl, hW⟩)
  go_ret
  exact ⟨rfl, hW⟩

/-! ### Truncate -/
/-! ### Rename -/
set_option maxHeartbeats 1000000 in
set_option maxRecDepth 100000 in
theorem rename_is (a b : ByteArray) (w : World) (ha : a.size ≤ maxLen) (hb : b.size ≤ maxLen) (h : IsFs w fb s F) :
    Calls Tryz.prog 51 #[.pointer (some ⟨fb, 0, none⟩), .string a, .string b] w fun e w' => e = .returned (.int .i64 (sRename s a.data.toList b.data.toList).1) ∧ Went F fb (sRename s a.data.toList b.data.toList).2 w w' := by
  obtain ⟨mb, D, G, dp, h⟩ := h
  have V := own3 w (.pointer (some ⟨fb, 0, none⟩)) 9 (.string a) 9 (.string b)
  have C := strike_is (t := doRename s a.data.toList b.data.toList) (err := errRename s a.data.toList b.data.toList) 73 74 #[.pointer (some ⟨w.heap.size, 0, none⟩), .pointer (some ⟨w.heap.size + 1, 0, none⟩), .pointer (some ⟨w.heap.size + 2, 0, none⟩)] #[.pointer (some ⟨w.heap.size, 0, none⟩), .pointer (some ⟨w.heap.size + 1, 0, none⟩), .pointer (some ⟨w.heap.size + 2, 0, none⟩)]
    false _ (h.below V.below) (fun W => by simp [go_sem]) (fun W => by simp [go_sem])
    (fun W hB hF => by
      obtain ⟨x1, x2, x3⟩ := V.boxes hB
      exact renameA _ _ _ a b W ha hb x1 x2 x3 hF)
    (fun he q W dp' s0 hF hf hc hT => by
      obtain ⟨x1, x2, x3⟩ := V.turned h.lt hT
      have := renameD (q := q) _ _ _ a b W ha hb x1 x2 x3 hF (by rw [errRename_congr hf]; exact he)
      rw [doRename_congr hf] at this
      exact this)
  have HC := Lib.hid (C.mono fun e w' hh => And.intro hh.1 (Wentz.after hh.2 V.below))
  have hmf : ∀ (fn : Fn) (first cap : Array Value) (w : World), (Instr.makeFunc fn first cap).run Tryz.prog w = .ok (.func fn first cap) w := fun _ _ _ _ => rfl
  clear C h V
  go_enter Tryz.func51, Tryz.ntmps51
  go_wp2_with (go_at_call 43; refine HC.out.mono ?_; rintro e w' ⟨rfl, hW⟩)
  go_ret
  exact ⟨rfl, hW⟩
theorem rename_no (p : Option Addr) (a b : ByteArray) (w : World) (h : NoFs w p) :
    Calls Tryz.prog 51 #[.pointer p, .string a, .string b] w fun e w' => e = .returned (.int .i64 1) ∧ Below w.heap.size w w' := by
  have V := own3 w (.pointer p) 9 (.string a) 9 (.string b)
  have HC := Lib.hid (fun K1 K2 c1 c2 => (strike_no p (.func (.func K1) #[] c1) (.func (.func K2) #[] c2) false _ (h.below V.below) rfl rfl).mono fun e w' hh => And.intro hh.1 (V.below.trans (hh.2.mono V.below.size)))
  have hmf : ∀ (fn : Fn) (first cap : Array Value) (w : World), (Instr.makeFunc fn first cap).run Tryz.prog w = .ok (.func fn first cap) w := fun _ _ _ _ => rfl
  clear h V
  go_enter Tryz.func51, Tryz.ntmps51
  go_wp2_with (go_at_call 43; refine (HC.out _ _ _ _).mono ?_; rintro e w' ⟨rfl, hW⟩)
  go_ret
  exact ⟨rfl, hW⟩

/-! ### Remove -/
set_option maxHeartbeats 1000000 in
set_option maxRecDepth 100000 in
theorem remove_is (nm : ByteArray) (w : World) (hn : nm.size ≤ maxLen) (h : IsFs w fb s F) :
    Calls Tryz.prog 29 #[.pointer (some ⟨fb, 0, none⟩), .string nm] w fun e w' => e = .returned (.int .i64 (sRemove s nm.data.toList).1) ∧ Went F fb (sRemove s nm.data.toList).2 w w' := by
  obtain ⟨mb, D, G, dp, h⟩ := h
  have V := own2 w (.pointer (some ⟨fb, 0, none⟩)) 9 (.string nm)
  have C := strike_is (t := del s.files nm.data.toList) (err := errThere s nm.data.toList) 53 54 #[.pointer (some ⟨w.heap.size, 0, none⟩), .pointer (some ⟨w.heap.size + 1, 0, none⟩)] #[.pointer (some ⟨w.heap.size, 0, none⟩), .pointer (some ⟨w.heap.size + 1, 0, none⟩)]
    false _ (h.below V.below) (fun W => by simp [go_sem]) (fun W => by simp [go_sem])
    (fun W hB hF => by
      obtain ⟨x1, x2⟩ := V.boxes hB
      exact removeA _ _ nm W hn x1 x2 hF)
    (fun he q W dp' s0 hF hf hc hT => by
      obtain ⟨x1, x2⟩ := V.turned h.lt hT
      have := removeD (q := q) _ _ nm W hn x1 x2 hF
      rw [hf] at this
      exact this)
  have HC := Lib.hid (C.mono fun e w' hh => And.intro hh.1 (Wentz.after hh.2 V.below))
  have hmf : ∀ (fn : Fn) (first cap : Array Value) (w : World), (Instr.makeFunc fn first cap).run Tryz.prog w = .ok (.func fn first cap) w := fun _ _ _ _ => rfl
  clear C h V
  go_enter Tryz.func29, Tryz.ntmps29
  go_wp2_with (go_at_call 43; refine HC.out.mono ?_; rintro e w' ⟨rfl, hW⟩)
  go_ret
  exact ⟨rfl, hW⟩
theorem remove_no (p : Option Addr) (nm : ByteArray) (w : World) (h : NoFs w p) :
    Calls Tryz.prog 29 #[.pointer p, .string nm] w fun e w' => e = .returned (.int .i64 1) ∧ Below w.heap.size w w' := by
  have V := own2 w (.pointer p) 9 (.string nm)
  have HC := Lib.hid (fun K1 K2 c1 c2 => (strike_no p (.func (.func K1) #[] c1) (.func (.func K2) #[] c2) false _ (h.below V.below) rfl rfl).mono fun e w' hh => And.intro hh.1 (V.below.trans (hh.2.mono V.below.size)))
  have hmf : ∀ (fn : Fn) (first cap : Array Value) (w : World), (Instr.makeFunc fn first cap).run Tryz.prog w = .ok (.func fn first cap) w := fun _ _ _ _ => rfl
  clear h V
  go_enter Tryz.func29, Tryz.ntmps29
  go_wp2_with (go_at_call 43; refine (HC.out _ _ _ _).mono ?_; rintro e w' ⟨rfl, hW⟩)
  go_ret
  exact ⟨rfl, hW⟩
end
end Go.Proofs.YtmknbakfjhjfmaaGreatDoor.fil
