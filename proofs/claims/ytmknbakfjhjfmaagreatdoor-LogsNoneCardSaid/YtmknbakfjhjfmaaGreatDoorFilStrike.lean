/- Files: a stroke: whether it is done at all is said by the function that is deferred. -/
import Derived.Test.YtmknbakfjhjfmaaGreatDoorFilLose
import Derived.Defers
import Derived.Recover
namespace Go.Proofs.YtmknbakfjhjfmaaGreatDoor.fil
open Go.RowKit Go.Lib Go.Maps Go.WideMaps
set_option linter.unusedVariables false
set_option linter.unusedSimpArgs false
set_option linter.unnecessarySimpa false
set_option linter.unusedSectionVars false

section
variable {q : Bool} {w w' : World} {F : Nat → Prop} {fb mb : Nat} {D : DataW Unit} {G : List Gf} {dp : Option Addr} {s : St}

/-- What is due, if something is: where it lies. -/
theorem Fz.dueSome (h : Fz q w fb mb D G dp s F) {n : Nat} {ks : List Int} (hd : s.due = some (n, ks)) :
    ∃ db A c z, dp = some ⟨db, 0, none⟩ ∧ At w db 116 #[.int .i64 z, .slice A ks.length c] ∧ F db ∧ w.ownsRow 0 3 1 (.slice A ks.length c) ks.length (iv ks) ∧ KeepAt w fb G A ks ∧ (q = true → z = (n : Int)) := by
  have hD := h.due
  rw [hd] at hD
  obtain ⟨b, v, z, e, h1, h2, h3, h4, h5⟩ := hD
  obtain ⟨A, c, rfl⟩ := own_form h3
  refine ⟨b, A, c, z, e, h1, h2, h3, fun h0 => ?_, h5⟩
  rcases h3.2 with ⟨hv, h6⟩ | ⟨g, cap, cur, hv, _, hh, _⟩
  · omega
  · injection hv with e1 _ _
    subst e1
    have hA : At w g 3 cur := hh
    refine ⟨g, 0, rfl, hA.lt, hA.ne h.head (by decide), fun x hx => hA.ne (h.each x hx).blk (by decide), fun j hj => ?_⟩
    have := h3.cells (g := g) rfl j (.int .i64 ks[j]) (by simp [iv, List.getElem?_eq_getElem hj])
    rw [Go.WideShapes.add_plain] at this
    rw [this]
    simp [List.getD, List.getElem?_eq_getElem hj]
theorem Fz.dueNone (h : Fz q w fb mb D G dp s F) (hd : s.due = none) : dp = none := by
  have hD := h.due
  rw [hd] at hD
  exact hD

/-- The count of what is due has turned. -/
theorem Fz.turnDue (h : Fz q w fb mb D G dp s F) {q' : Bool} {n m : Nat} {ks : List Int} (hd : s.due = some (n, ks)) {db : Nat} {A : Option Addr} {c : Nat} {z z' : Int} (hdp : dp = some ⟨db, 0, none⟩) (hA : At w db 116 #[.int .i64 z, .slice A ks.length c]) (hF : F db)
    (hr : w.ownsRow 0 3 1 (.slice A ks.length c) ks.length (iv ks)) (hm : m ≤ n) (hz : q' = true → z' = (m : Int)) : Fz q' (w.setCell ⟨db, 0, none⟩ (.int .i64 z')) fb mb D G dp { s with due := some (m, ks) } F := by
  have hT : Turned (fun b => b = db) w (w.setCell ⟨db, 0, none⟩ (.int .i64 z')) := (Turned.refl (fun b => b = db) w).setCell (p := ⟨db, 0, none⟩) (.inl rfl) _
  have hdd := h.ok.due n ks hd
  refine h.turnHead (fun b hb => hb) (fun b hb => Nat.lt_of_lt_of_le (h.lt b hb) hT.size) (fun b t cs hb ht => hT.block b hb.lt (hb.ne hA (by rcases ht with rfl | rfl <;> decide))) (hT.block mb h.map.lt (fun e => hA.ne_map h.map e.symm))
    (h.head.same (hT.block fb h.head.lt (h.head.ne hA (by decide)))) rfl ?_ (h.ok.set h.ok.f _ _ _ (fun n' ks' e => by simp only [Option.some.injEq, Prod.mk.injEq] at e; obtain ⟨rfl, rfl⟩ := e; exact ⟨by omega, hdd.2⟩))
  refine ⟨db, _, z', hdp, At.set hA 0 _, hF, own_same hr (fun b e => hT.block b ?_ ?_), fun x e => ?_, hz⟩
  · obtain ⟨cs, hc⟩ := own_at hr e
    exact hc.lt
  · obtain ⟨cs, hc⟩ := own_at hr e
    exact hc.ne hA (by decide)
  · have hD := h.due
    rw [hd] at hD
    obtain ⟨b, v, z2, e2, h1, h2, h3, h4, _⟩ := hD
    rw [hdp] at e2
    injection e2 with e2
    injection e2 with e2 _ _
    subst e2
    have e3 : v = .slice A ks.length c := by
      have e4 := hA.cell 1
      rw [At.cell h1 1] at e4
      simpa using e4
    exact h4 x (e3 ▸ e)

theorem failsNone (w : World) (h : Fz q w fb mb D G dp s F) (hd : s.due = none) : Calls Tryz.prog 71 #[.pointer (some ⟨fb, 0, none⟩)] w fun e w' => e = .returned (.bool false) ∧ w = w' := by
  have c4 := h.cells.2.2.2.2.1
  rw [h.dueNone hd] at c4
  clear h hd
  go_enter Tryz.func71, Tryz.ntmps71
  go_wp2
  go_ret
  exact ⟨rfl, rfl⟩
theorem failsSome (w : World) (h : Fs w fb mb D G dp s F) {n : Nat} {ks : List Int} (hd : s.due = some (n, ks)) {db : Nat} (hdp : dp = some ⟨db, 0, none⟩) :
    Calls Tryz.prog 71 #[.pointer (some ⟨fb, 0, none⟩)] w fun e w' => e = .returned (.bool (decide ((n : Int) - 1 < 0))) ∧ w.setCell ⟨db, 0, none⟩ (.int .i64 ((n : Int) - 1)) = w' := by
  have c4 := h.cells.2.2.2.2.1
  obtain ⟨db', A, c, z, e, hA, hF, hr, hK, hz⟩ := h.dueSome hd
  obtain rfl : db' = db := by rw [hdp] at e; injection e with e; injection e with e _ _; exact e.symm
  subst hdp
  have k0 : w.cell? ⟨db', 0, none⟩ = some (.int .i64 n) := by rw [← hz rfl]; exact hA.cell 0
  have f0 := hA.frozen 0
  have hn := (h.ok.due n ks hd).1
  have ne : ¬ fb = db' := h.head.ne hA (by decide)
  have ne2 : ¬ db' = fb := fun e => ne e.symm
  clear h hd hA hF hr hK hz e
  go_enter Tryz.func71, Tryz.ntmps71
  go_wp2
  go_ret
  exact ⟨rfl, rfl⟩

/-- What becomes of a stroke of the error e: none, if there is one. -/
def strokeOn (s : St) (e : Int) (early : Bool) (t : List Fl) : Int × St :=
  if e = 0 then
    match s.due with
    | none => (0, { s with files := t })
    | some (0, ks) => (51, crash ks { s with files := if early = true then t else s.files })
    | some (n + 1, ks) => (0, { s with files := t, due := some (n, ks) })
  else (e, s)
theorem stroke_on (s : St) (e : Int) (early : Bool) (t : List Fl) : stroke s e early t = strokeOn s (if s.off = true then 51 else e) early t := by
  unfold stroke strokeOn
  by_cases h : s.off = true
  · rw [if_pos h, if_pos h, if_neg (by decide)]
  · rw [if_neg h, if_neg h]
    generalize s.due = d
    rcases d with _ | ⟨_ | n, ks⟩ <;> rfl

theorem strokeOn_none {s : St} (hd : s.due = none) (early : Bool) (t : List Fl) : strokeOn s 0 early t = (0, { s with files := t }) := by
  unfold strokeOn; rw [if_pos rfl]; obtain ⟨_, _, _, _, d⟩ := s; cases hd; rfl
theorem strokeOn_zero {s : St} {ks : List Int} (hd : s.due = some (0, ks)) (early : Bool) (t : List Fl) : strokeOn s 0 early t = (51, crash ks { s with files := if early = true then t else s.files }) := by
  unfold strokeOn; rw [if_pos rfl]; obtain ⟨_, _, _, _, d⟩ := s; cases hd; rfl
theorem strokeOn_succ {s : St} {n : Nat} {ks : List Int} (hd : s.due = some (n + 1, ks)) (early : Bool) (t : List Fl) : strokeOn s 0 early t = (0, { s with files := t, due := some (n, ks) }) := by
  unfold strokeOn; rw [if_pos rfl]; obtain ⟨_, _, _, _, d⟩ := s; cases hd; rfl
/-- What the deferred function leaves. -/
def Struck (F : Nat → Prop) (fb be : Nat) (r : Int × St) (w w' : World) : Prop :=
  At w' be 29 #[.int .i64 r.1] ∧ Turned (fun b => F b ∨ b = be) w w' ∧ ∃ F', (∀ b, F' b → F b ∨ w.heap.size ≤ b) ∧ IsFs w' fb r.2 F'

set_option maxRecDepth 100000 in
theorem strikeErr (be bf bs : Nat) (err : Int) (early : Bool) (t : List Fl) (u : FrameMode) (w : World) (h : Fs w fb mb D G dp s F) (h1 : At w be 29 #[.int .i64 err]) (he : err ≠ 0) :
    CallsD Tryz.prog 70 #[.pointer (some ⟨be, 0, none⟩), .pointer (some ⟨bf, 0, none⟩), .pointer (some ⟨bs, 0, none⟩)] u w fun e u' w' => u' = u ∧ (e = .returned (.tuple #[]) ∧ Struck F fb be (strokeOn s err early t) w w') := by
  have k1 : w.cell? ⟨be, 0, none⟩ = some (.int .i64 err) := h1.cell 0
  have hb : (err != 0) = true := by simpa using he
  have HE : Hid (Struck F fb be (strokeOn s err early t) w w) := Lib.hid (by
    unfold strokeOn
    rw [if_neg he]
    exact ⟨h1, Turned.refl _ _, F, fun b hb => .inl hb, mb, D, G, dp, h⟩)
  clear h h1 he
  go_enter_d Tryz.func70, Tryz.ntmps70
  go_wp2
  first | go_end0 | refine bodyPost_ret (results_none rfl _ _ _) rfl ?_
  exact ⟨rfl, HE.out⟩

set_option maxRecDepth 100000 in
theorem strikeNone (be bf bs K1 K2 : Nat) (c1 c2 : Array Value) (early : Bool) (t : List Fl) (u : FrameMode) (w : World) (h : Fs w fb mb D G dp s F) (hd : s.due = none)
    (h1 : At w be 29 #[.int .i64 0]) (h2 : Box w bf 32 (.pointer (some ⟨fb, 0, none⟩))) (h3 : At w bs 87 #[.func (.func K1) #[] c1, .func (.func K2) #[] c2, .bool early])
    (n1 : ¬ F be) (hK2 : ∀ W, (callFunc K2 c2).run Tryz.prog W = .ok (.enter K2 c2) W) (hD : Calls Tryz.prog K2 c2 w fun e w' => e = .returned (.tuple #[]) ∧ Went F fb { s with files := t } w w') :
    CallsD Tryz.prog 70 #[.pointer (some ⟨be, 0, none⟩), .pointer (some ⟨bf, 0, none⟩), .pointer (some ⟨bs, 0, none⟩)] u w fun e u' w' => u' = u ∧ (e = .returned (.tuple #[]) ∧ Struck F fb be (strokeOn s 0 early t) w w') := by
  have k1 : w.cell? ⟨be, 0, none⟩ = some (.int .i64 0) := h1.cell 0
  have k2 := h2.cell
  have k3 : w.cell? ⟨bs, 0, none⟩ = some (.func (.func K1) #[] c1) := h3.cell 0
  have k4 : w.cell? ⟨bs, 1, none⟩ = some (.func (.func K2) #[] c2) := h3.cell 1
  have k5 : w.cell? ⟨bs, 2, none⟩ = some (.bool early) := h3.cell 2
  have C := Lib.hid (failsNone w h hd)
  have HD := Lib.hid hD
  have H1 := Lib.hid h1
  clear h h1 h2 h3 hD
  go_enter_d Tryz.func70, Tryz.ntmps70
  go_wp2_with (first | (go_at_call 71; refine C.out.mono ?_; rintro e w' ⟨rfl, rfl⟩))
  refine HD.out.mono ?_
  rintro e w2 ⟨rfl, hW⟩
  have HE : Hid (Struck F fb be (strokeOn s 0 early t) w w2) := Lib.hid (by
    rw [strokeOn_none hd]
    exact ⟨hW.1.at H1.out n1, hW.1.mono fun b hb => .inl hb, hW.2⟩)
  clear hW
  go_wp2
  go_end0
  exact ⟨rfl, HE.out⟩

set_option maxRecDepth 100000 in
theorem strikeSucc (be bf bs K1 K2 : Nat) (c1 c2 : Array Value) (early : Bool) (t : List Fl) (u : FrameMode) (w : World) (h : Fs w fb mb D G dp s F) {n : Nat} {ks : List Int} (hd : s.due = some (n + 1, ks))
    (h1 : At w be 29 #[.int .i64 0]) (h2 : Box w bf 32 (.pointer (some ⟨fb, 0, none⟩))) (h3 : At w bs 87 #[.func (.func K1) #[] c1, .func (.func K2) #[] c2, .bool early])
    (n1 : ¬ F be) (n2 : ¬ F bf) (n3 : ¬ F bs) (hK2 : ∀ W, (callFunc K2 c2).run Tryz.prog W = .ok (.enter K2 c2) W) (hD : ∀ W dp' s0, Fs W fb mb D G dp' s0 F → s0.files = s.files → s0.cap = s.cap → Turned F w W → Calls Tryz.prog K2 c2 W fun e W' => e = .returned (.tuple #[]) ∧ Went F fb { s0 with files := t } W W') :
    CallsD Tryz.prog 70 #[.pointer (some ⟨be, 0, none⟩), .pointer (some ⟨bf, 0, none⟩), .pointer (some ⟨bs, 0, none⟩)] u w fun e u' w' => u' = u ∧ (e = .returned (.tuple #[]) ∧ Struck F fb be (strokeOn s 0 early t) w w') := by
  obtain ⟨db, A, c, z, hdp, hA, hF, hr, hK, hz⟩ := h.dueSome hd
  have C := Lib.hid (failsSome w h hd hdp)
  have hlt : decide (((n + 1 : Nat) : Int) - 1 < 0) = false := by simp
  have e1 : ((n + 1 : Nat) : Int) - 1 = n := by omega
  rw [hlt, e1] at C
  clear hlt e1
  have hT : Turned F w (w.setCell ⟨db, 0, none⟩ (.int .i64 n)) := (Turned.refl _ _).setCell (.inl hF) _
  have h' : Fs (w.setCell ⟨db, 0, none⟩ (.int .i64 n)) fb mb D G dp { s with due := some (n, ks) } F := h.turnDue hd hdp hA hF hr (by omega) (fun _ => rfl)
  have HD := Lib.hid (hD _ dp _ h' rfl rfl hT)
  have HT := Lib.hid hT
  have H1 := Lib.hid (hT.at h1 n1)
  have h2' : Box (w.setCell ⟨db, 0, none⟩ (.int .i64 n)) bf _ _ := hT.at h2 n2
  have h3' := hT.at h3 n3
  have k1 : w.cell? ⟨be, 0, none⟩ = some (.int .i64 0) := h1.cell 0
  have k2 := h2.cell
  generalize w.setCell ⟨db, 0, none⟩ (.int .i64 n) = w1 at *
  have k3 : w1.cell? ⟨bs, 0, none⟩ = some (.func (.func K1) #[] c1) := h3'.cell 0
  have k4 : w1.cell? ⟨bs, 1, none⟩ = some (.func (.func K2) #[] c2) := h3'.cell 1
  have k5 : w1.cell? ⟨bs, 2, none⟩ = some (.bool early) := h3'.cell 2
  clear h h1 h2 h3 hD hT h' h2' h3' hA hr hK hz hdp
  go_enter_d Tryz.func70, Tryz.ntmps70
  go_wp2_with (first | (go_at_call 71; refine C.out.mono ?_; rintro e w' ⟨rfl, rfl⟩))
  refine HD.out.mono ?_
  rintro e w2 ⟨rfl, hW⟩
  have HE : Hid (Struck F fb be (strokeOn s 0 early t) w w2) := Lib.hid (by
    rw [strokeOn_succ hd]
    have hW2 : Went F fb _ w w2 := Wentz.trans HT.out (fun b hb => .inl hb) hW
    exact ⟨hW.1.at H1.out n1, hW2.1.mono fun b hb => .inl hb, hW2.2⟩)
  clear hW
  go_wp2
  go_end0
  exact ⟨rfl, HE.out⟩

/-- The crash that comes with a stroke: from the world w1, in which the count has turned already (and the stroke has been done, or not). -/
theorem loseDue (be : Nat) (w w1 : World) {s1 : St} {F1 : Nat → Prop} {mb1 : Nat} {D1 : DataW Unit} {G1 : List Gf} {dp1 : Option Addr} (h : Fz false w1 fb mb1 D1 G1 dp1 s1 F1) {ks : List Int} (hd : s1.due = some (0, ks)) (hT : Turned F w w1) (hF : ∀ b, F1 b → F b ∨ w.heap.size ≤ b)
    (h1 : At w1 be 29 #[.int .i64 0]) (hbe : be < w.heap.size) (n1 : ¬ F be) :
    ∃ db A c, dp1 = some ⟨db, 0, none⟩ ∧ w1.cell? ⟨fb, 4, none⟩ = some (.pointer (some ⟨db, 0, none⟩)) ∧ w1.cell? ⟨db, 1, none⟩ = some (.slice A ks.length c) ∧
      ∀ k, Calls Tryz.prog 32 #[.pointer (some ⟨fb, 0, none⟩), .slice A ks.length c] (w1.drewN k) fun e w2 => e = .returned (.tuple #[]) ∧ w2.cell? ⟨be, 0, none⟩ = some (.int .i64 0) ∧ w2.frozen? ⟨be, 0, none⟩ = false ∧ Hid (Struck F fb be (51, crash ks s1) w (w2.setCell ⟨be, 0, none⟩ (.int .i64 51))) := by
  obtain ⟨db, A, c, z, hdp, hA, hFb, hr, hK, hz⟩ := h.dueSome hd
  have n2 : ¬ F1 be := fun hf => by rcases hF be hf with h2 | h2 <;> first | exact n1 h2 | omega
  refine ⟨db, A, c, hdp, by rw [← hdp]; exact h.cells.2.2.2.2.1, hA.cell 1, fun k => ?_⟩
  have hkl := (h.ok.due 0 ks hd).2
  refine (lose_is A c ks (w1.drewN k) (by omega) hK (h.drewN k)).mono fun e w2 ⟨he, hW⟩ => ?_
  have hW : Went F1 fb (crash ks s1) w1 w2 := hW.fromN
  have hA2 := hW.1.at h1 n2
  refine ⟨he, hA2.cell 0, hA2.frozen 0, Lib.hid ?_⟩
  obtain ⟨hT2, F2, hF2, hS⟩ := hW
  have hB2 : Turned (fun b => b = be) w2 (w2.setCell ⟨be, 0, none⟩ (.int .i64 51)) := (Turned.refl (fun b => b = be) w2).setCell (p := ⟨be, 0, none⟩) (.inl rfl) _
  have hF3 : ∀ b, F2 b → F b ∨ w.heap.size ≤ b := fun b hb => by
    rcases hF2 b hb with h2 | h2
    · exact hF b h2
    · have := hT.size; exact .inr (by omega)
  have n3 : ¬ F2 be := fun hf => by rcases hF3 be hf with h2 | h2 <;> first | exact n1 h2 | omega
  refine ⟨At.set hA2 0 _, ?_, F2, hF3, hS.apart hB2 (fun b hb e => n3 (e ▸ hb))⟩
  refine (((hT.mono fun b hb => .inl hb).trans (hT2.mono (F' := fun b => F1 b) fun b hb => hb) (fun b hb => (hF b hb).imp .inl id)).trans (hB2.mono (F' := fun b => F b ∨ b = be) fun b hb => .inr hb) (fun b hb => .inl hb))

set_option maxHeartbeats 1000000 in
set_option maxRecDepth 100000 in
theorem strikeLate (be bf bs K1 K2 : Nat) (c1 c2 : Array Value) (t : List Fl) (u : FrameMode) (w : World) (h : Fs w fb mb D G dp s F) {ks : List Int} (hd : s.due = some (0, ks))
    (h1 : At w be 29 #[.int .i64 0]) (h2 : Box w bf 32 (.pointer (some ⟨fb, 0, none⟩))) (h3 : At w bs 87 #[.func (.func K1) #[] c1, .func (.func K2) #[] c2, .bool false])
    (n1 : ¬ F be) (n2 : ¬ F bf) (n3 : ¬ F bs) :
    CallsD Tryz.prog 70 #[.pointer (some ⟨be, 0, none⟩), .pointer (some ⟨bf, 0, none⟩), .pointer (some ⟨bs, 0, none⟩)] u w fun e u' w' => u' = u ∧ (e = .returned (.tuple #[]) ∧ Struck F fb be (strokeOn s 0 false t) w w') := by
  obtain ⟨db, A, c, z, hdp, hA, hF, hr, hK, hz⟩ := h.dueSome hd
  have C := Lib.hid (failsSome w h hd hdp)
  have hlt : decide (((0 : Nat) : Int) - 1 < 0) = true := by decide
  have e1 : ((0 : Nat) : Int) - 1 = -1 := by decide
  rw [hlt, e1] at C
  clear hlt e1
  have hT : Turned F w (w.setCell ⟨db, 0, none⟩ (.int .i64 (-1))) := (Turned.refl _ _).setCell (.inl hF) _
  have h' : Fz false (w.setCell ⟨db, 0, none⟩ (.int .i64 (-1))) fb mb D G dp { s with due := some (0, ks) } F := h.turnDue hd hdp hA hF hr (Nat.le_refl _) (fun e => by cases e)
  have hs : ({ s with due := some (0, ks) } : St) = s := by obtain ⟨_, _, _, _, d⟩ := s; cases hd; rfl
  rw [hs] at h'
  obtain ⟨db2, A2, cc2, hdp2, q4, q5, CL⟩ := loseDue be w _ h' hd hT (fun b hb => .inl hb) (hT.at h1 n1) h1.lt n1
  have CL := Lib.hid CL
  have h2' : Box (w.setCell ⟨db, 0, none⟩ (.int .i64 (-1))) bf _ _ := hT.at h2 n2
  have h3' := hT.at h3 n3
  have k1 : w.cell? ⟨be, 0, none⟩ = some (.int .i64 0) := h1.cell 0
  have k2 := h2.cell
  generalize w.setCell ⟨db, 0, none⟩ (.int .i64 (-1)) = w1 at *
  have k3 : w1.cell? ⟨bs, 0, none⟩ = some (.func (.func K1) #[] c1) := h3'.cell 0
  have k4 : w1.cell? ⟨bs, 1, none⟩ = some (.func (.func K2) #[] c2) := h3'.cell 1
  have k5 : w1.cell? ⟨bs, 2, none⟩ = some (.bool false) := h3'.cell 2
  have k6 := h2'.cell
  have HS : Hid (strokeOn s 0 false t = (51, crash ks s)) := Lib.hid (strokeOn_zero hd false t)
  clear h h1 h2 h3 hT h' h2' h3' hA hr hK hz hdp hdp2
  go_enter_d Tryz.func70, Tryz.ntmps70
  go_wp2_with (first | (go_at_call 71; refine C.out.mono ?_; rintro e w' ⟨rfl, rfl⟩))
  go_region_with ((go_at_call 32; refine (CL.out _).mono ?_; rintro e w2 ⟨rfl, z1, z2, z3⟩))
  all_goals (go_wp2; go_end0; exact ⟨rfl, by rw [HS.out]; exact z3.out⟩)

set_option maxHeartbeats 1000000 in
set_option maxRecDepth 100000 in
theorem strikeEarly (be bf bs K1 K2 : Nat) (c1 c2 : Array Value) (t : List Fl) (u : FrameMode) (w : World) (h : Fs w fb mb D G dp s F) {ks : List Int} (hd : s.due = some (0, ks))
    (h1 : At w be 29 #[.int .i64 0]) (h2 : Box w bf 32 (.pointer (some ⟨fb, 0, none⟩))) (h3 : At w bs 87 #[.func (.func K1) #[] c1, .func (.func K2) #[] c2, .bool true])
    (n1 : ¬ F be) (n2 : ¬ F bf) (n3 : ¬ F bs) (hK2 : ∀ W, (callFunc K2 c2).run Tryz.prog W = .ok (.enter K2 c2) W) (hD : ∀ W dp' s0, Fz false W fb mb D G dp' s0 F → s0.files = s.files → s0.cap = s.cap → Turned F w W → Calls Tryz.prog K2 c2 W fun e W' => e = .returned (.tuple #[]) ∧ Wentz false F fb { s0 with files := t } W W') :
    CallsD Tryz.prog 70 #[.pointer (some ⟨be, 0, none⟩), .pointer (some ⟨bf, 0, none⟩), .pointer (some ⟨bs, 0, none⟩)] u w fun e u' w' => u' = u ∧ (e = .returned (.tuple #[]) ∧ Struck F fb be (strokeOn s 0 true t) w w') := by
  obtain ⟨db, A, c, z, hdp, hA, hF, hr, hK, hz⟩ := h.dueSome hd
  have C := Lib.hid (failsSome w h hd hdp)
  have hlt : decide (((0 : Nat) : Int) - 1 < 0) = true := by decide
  have e1 : ((0 : Nat) : Int) - 1 = -1 := by decide
  rw [hlt, e1] at C
  clear hlt e1
  have hT : Turned F w (w.setCell ⟨db, 0, none⟩ (.int .i64 (-1))) := (Turned.refl _ _).setCell (.inl hF) _
  have h' : Fz false (w.setCell ⟨db, 0, none⟩ (.int .i64 (-1))) fb mb D G dp { s with due := some (0, ks) } F := h.turnDue hd hdp hA hF hr (Nat.le_refl _) (fun e => by cases e)
  have hs : ({ s with due := some (0, ks) } : St) = s := by obtain ⟨_, _, _, _, d⟩ := s; cases hd; rfl
  rw [hs] at h'
  have HD := Lib.hid (hD _ dp s h' rfl rfl hT)
  have h2' : Box (w.setCell ⟨db, 0, none⟩ (.int .i64 (-1))) bf _ _ := hT.at h2 n2
  have h3' := hT.at h3 n3
  have h1' := hT.at h1 n1
  have HT := Lib.hid hT
  have hbe := h1.lt
  have hbf : bf < w.heap.size := At.lt h2
  have k1 : w.cell? ⟨be, 0, none⟩ = some (.int .i64 0) := h1.cell 0
  have k2 := h2.cell
  generalize w.setCell ⟨db, 0, none⟩ (.int .i64 (-1)) = w1 at *
  have k3 : w1.cell? ⟨bs, 0, none⟩ = some (.func (.func K1) #[] c1) := h3'.cell 0
  have k4 : w1.cell? ⟨bs, 1, none⟩ = some (.func (.func K2) #[] c2) := h3'.cell 1
  have k5 : w1.cell? ⟨bs, 2, none⟩ = some (.bool true) := h3'.cell 2
  have HS : Hid (strokeOn s 0 true t = (51, crash ks { s with files := t })) := Lib.hid (strokeOn_zero hd true t)
  have H1 := Lib.hid h1'
  have H2 := Lib.hid h2'
  clear h h1 h2 h3 hT h' h1' h2' h3' hA hr hK hz hdp hD
  go_enter_d Tryz.func70, Tryz.ntmps70
  go_wp2_with (first | (go_at_call 71; refine C.out.mono ?_; rintro e w' ⟨rfl, rfl⟩))
  refine HD.out.mono ?_
  rintro e w2 ⟨rfl, hT2, F2, hF2, mb2, D2, G2, dp2, hS2⟩
  obtain ⟨db2, A2, cc2, hdp2, q4, q5, CL⟩ := loseDue (F := F) be w w2 hS2 hd (HT.out.trans hT2 (fun b hb => .inl hb)) (fun b hb => by
    rcases hF2 b hb with h2 | h2
    · exact .inl h2
    · have := HT.out.size; exact .inr (by omega)) (hT2.at H1.out n1) hbe n1
  have CL := Lib.hid CL
  have k6 : w2.cell? ⟨bf, 0, none⟩ = some (.pointer (some ⟨fb, 0, none⟩)) := (hT2.at H2.out n2).cell 0
  clear hT2 hF2 hS2 hdp2
  go_wp2
  go_region_with ((go_at_call 32; refine (CL.out _).mono ?_; rintro e w3 ⟨rfl, z1, z2, z3⟩))
  all_goals (go_wp2; go_end0; exact ⟨rfl, by rw [HS.out]; exact z3.out⟩)
end
end Go.Proofs.YtmknbakfjhjfmaaGreatDoor.fil
