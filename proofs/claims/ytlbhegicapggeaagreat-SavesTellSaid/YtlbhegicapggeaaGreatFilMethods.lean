/- Files: the five strokes. -/
import Derived.Test.YtlbhegicapggeaaGreatFilStroke
namespace Go.Proofs.YtlbhegicapggeaaGreat.fil
open Go.RowKit Go.Lib Go.Maps Go.WideMaps
set_option linter.unusedVariables false
set_option linter.unusedSimpArgs false
set_option linter.unnecessarySimpa false
set_option linter.unusedSectionVars false

section
variable {w w' : World} {F : Nat → Prop} {fb mb : Nat} {D : DataW Unit} {G : List Gf} {dp : Option Addr} {s : St}

theorem NoFs.below {p : Option Addr} (h : NoFs w p) (hB : Below w.heap.size w w') : NoFs w' p := by
  rcases h with h | ⟨fb, e, h⟩
  · exact .inl h
  · exact .inr ⟨fb, e, h.same (hB.block _ h.lt)⟩

theorem strikeNo (be bf bs : Nat) (u : FrameMode) (w : World) (h1 : w.cell? ⟨be, 0, none⟩ = some (.int .i64 1)) :
    CallsD Tryz.prog 81 #[.pointer (some ⟨be, 0, none⟩), .pointer (some ⟨bf, 0, none⟩), .pointer (some ⟨bs, 0, none⟩)] u w fun e u' w' => u' = u ∧ (e = .returned (.tuple #[]) ∧ w = w') := by
  go_enter_d Tryz.func81, Tryz.ntmps81
  go_wp2
  first | go_end0 | refine bodyPost_ret (results_none rfl _ _ _) rfl ?_
  exact ⟨rfl, rfl⟩

set_option maxHeartbeats 1000000 in
set_option maxRecDepth 100000 in
theorem strike_no (p : Option Addr) (f1 f2 : Value) (early : Bool) (w : World) (h : NoFs w p) (h1 : f1.oneCell' = true) (h2 : f2.oneCell' = true) :
    Calls Tryz.prog 59 #[.pointer p, .agg #[f1, f2, .bool early]] w fun e w' => e = .returned (.int .i64 1) ∧ Below w.heap.size w w' := by
  have hB : ∀ o1 o2 o3, Below w.heap.size w (((w.alloc o1).alloc o2).alloc o3) := fun o1 o2 o3 => (((Below.refl _ w).alloc (Nat.le_refl _) _).alloc (by simp) _).alloc (by simp; omega) _
  have U := Lib.hid (fun o1 o2 o3 => useless_no p _ (h.below (hB o1 o2 o3)))
  have HB := Lib.hid hB
  have hmf : ∀ (fn : Fn) (first cap : Array Value) (w : World), (Instr.makeFunc fn first cap).run Tryz.prog w = .ok (.func fn first cap) w := fun _ _ _ _ => rfl
  clear h hB
  go_enter_defers Tryz.func59, Tryz.ntmps59
  go_wp2_with (go_at_call 56; refine (U.out _ _ _).mono ?_; rintro e w' ⟨rfl, rfl⟩)
  refine leaves_cons (f := 81) (args := #[.pointer (some ⟨w.heap.size + 2, 0, none⟩), .pointer (some ⟨w.heap.size, 0, none⟩), .pointer (some ⟨w.heap.size + 1, 0, none⟩)]) (by simp) (by simp [go_sem]) ?_
  refine (strikeNo _ _ _ _ _ (by simp [go_sem])).mono ?_
  rintro e u' w2 ⟨rfl, rfl, rfl⟩
  simp [Leaves, settle, results, Tryz.results59, go_sem]
  exact HB.out _ _ _

/-! ### Append -/
theorem errAppend_congr {s s0 : St} (h1 : s0.files = s.files) (h2 : s0.cap = s.cap) (nm : List UInt8) (m : Nat) : errAppend s0 nm m = errAppend s nm m := by unfold errAppend; rw [h1, h2]
theorem doAppend_congr {s s0 : St} (h1 : s0.files = s.files) (nm t : List UInt8) : doAppend s0 nm t = doAppend s nm t := by unfold doAppend; rw [h1]
theorem errTrunc_congr {s s0 : St} (h1 : s0.files = s.files) (nm : List UInt8) (n : Int) : errTrunc s0 nm n = errTrunc s nm n := by unfold errTrunc; rw [h1]
theorem doTrunc_congr {s s0 : St} (h1 : s0.files = s.files) (nm : List UInt8) (n : Int) : doTrunc s0 nm n = doTrunc s nm n := by unfold doTrunc; rw [h1]
theorem errThere_congr {s s0 : St} (h1 : s0.files = s.files) (nm : List UInt8) : errThere s0 nm = errThere s nm := by unfold errThere; rw [h1]
theorem doSync_congr {s s0 : St} (h1 : s0.files = s.files) (nm : List UInt8) : doSync s0 nm = doSync s nm := by unfold doSync; rw [h1]
theorem errRename_congr {s s0 : St} (h1 : s0.files = s.files) (a b : List UInt8) : errRename s0 a b = errRename s a b := by unfold errRename; rw [h1]
theorem doRename_congr {s s0 : St} (h1 : s0.files = s.files) (a b : List UInt8) : doRename s0 a b = doRename s a b := by unfold doRename; rw [h1]

/-- Three variables of a method's own, captured by its two function literals. -/
structure Own3 (w : World) (v1 : Value) (t2 : TypeId) (v2 : Value) (t3 : TypeId) (v3 : Value) (W : World) : Prop where
  below : Below w.heap.size w W
  b1 : Box W w.heap.size 25 v1
  b2 : Box W (w.heap.size + 1) t2 v2
  b3 : Box W (w.heap.size + 2) t3 v3
theorem own3 (w : World) (v1 : Value) (t2 : TypeId) (v2 : Value) (t3 : TypeId) (v3 : Value) : Own3 w v1 t2 v2 t3 v3 (((w.alloc (.cells #[v1] 25)).alloc (.cells #[v2] t2)).alloc (.cells #[v3] t3)) := by
  refine ⟨(((Below.refl _ w).alloc (Nat.le_refl _) _).alloc (by simp) _).alloc (by simp; omega) _, ((At.new w _ _).alloc _).alloc _, ?_, ?_⟩
  · have := (At.new (w.alloc (.cells #[v1] 25)) t2 #[v2]).alloc (.cells #[v3] t3)
    rw [World.size_alloc] at this
    exact this
  · have := At.new ((w.alloc (.cells #[v1] 25)).alloc (.cells #[v2] t2)) t3 #[v3]
    rw [World.size_alloc, World.size_alloc] at this
    exact this
theorem Own3.turned {v1 : Value} {t2 : TypeId} {v2 : Value} {t3 : TypeId} {v3 : Value} {W W' : World} (h : Own3 w v1 t2 v2 t3 v3 W) (hn : ∀ b, F b → b < w.heap.size) (hT : Turned F W W') :
    Box W' w.heap.size 25 v1 ∧ Box W' (w.heap.size + 1) t2 v2 ∧ Box W' (w.heap.size + 2) t3 v3 :=
  ⟨hT.at h.b1 (fun hf => by have := hn _ hf; omega), hT.at h.b2 (fun hf => by have := hn _ hf; omega), hT.at h.b3 (fun hf => by have := hn _ hf; omega)⟩
theorem Own3.boxes {v1 : Value} {t2 : TypeId} {v2 : Value} {t3 : TypeId} {v3 : Value} {W W' : World} (h : Own3 w v1 t2 v2 t3 v3 W) (hB : Below W.heap.size W W') :
    Box W' w.heap.size 25 v1 ∧ Box W' (w.heap.size + 1) t2 v2 ∧ Box W' (w.heap.size + 2) t3 v3 := ⟨h.b1.below hB, h.b2.below hB, h.b3.below hB⟩
theorem Wentz.after {q : Bool} {W : World} (h : Wentz q F fb s W w') (hB : Below w.heap.size w W) : Wentz q F fb s w w' := Wentz.trans (Turned.of_below hB F) (fun _ hb => .inl hb) h

set_option maxHeartbeats 1000000 in
set_option maxRecDepth 100000 in
theorem append_is (nm t : ByteArray) (w : World) (hn : nm.size ≤ maxLen) (ht : t.size ≤ maxLen) (h : IsFs w fb s F) :
    Calls Tryz.prog 29 #[.pointer (some ⟨fb, 0, none⟩), .string nm, .string t] w fun e w' => e = .returned (.int .i64 (sAppend s nm.data.toList t.data.toList).1) ∧ Went F fb (sAppend s nm.data.toList t.data.toList).2 w w' := by
  obtain ⟨mb, D, G, dp, h⟩ := h
  have V := own3 w (.pointer (some ⟨fb, 0, none⟩)) 9 (.string nm) 9 (.string t)
  have C := strike_is (t := doAppend s nm.data.toList t.data.toList) (err := errAppend s nm.data.toList t.data.toList.length) 64 67
    #[.pointer (some ⟨w.heap.size + 1, 0, none⟩), .pointer (some ⟨w.heap.size, 0, none⟩), .pointer (some ⟨w.heap.size + 2, 0, none⟩)] #[.pointer (some ⟨w.heap.size, 0, none⟩), .pointer (some ⟨w.heap.size + 1, 0, none⟩), .pointer (some ⟨w.heap.size + 2, 0, none⟩)]
    true _ (h.below V.below) (fun W => by simp [go_sem]) (fun W => by simp [go_sem])
    (fun W hB hF => by
      obtain ⟨x1, x2, x3⟩ := V.boxes hB
      exact appendA _ _ _ nm t W hn ht x1 x2 x3 hF)
    (fun he q W dp' s0 hF hf hc hT => by
      obtain ⟨x1, x2, x3⟩ := V.turned h.lt hT
      have := appendD (q := q) _ _ _ nm t W hn x1 x2 x3 hF (by rw [errAppend_congr hf hc]; exact he)
      rw [doAppend_congr hf] at this
      exact this)
  have HC := Lib.hid (C.mono fun e w' hh => And.intro hh.1 (Wentz.after hh.2 V.below))
  have hmf : ∀ (fn : Fn) (first cap : Array Value) (w : World), (Instr.makeFunc fn first cap).run Tryz.prog w = .ok (.func fn first cap) w := fun _ _ _ _ => rfl
  clear C h V
  go_enter Tryz.func29, Tryz.ntmps29
  go_wp2_with (go_at_call 59; refine HC.out.mono ?_; rintro e w' ⟨rfl, hW⟩)
  go_ret
  exact ⟨rfl, hW⟩
theorem append_no (p : Option Addr) (nm t : ByteArray) (w : World) (h : NoFs w p) :
    Calls Tryz.prog 29 #[.pointer p, .string nm, .string t] w fun e w' => e = .returned (.int .i64 1) ∧ Below w.heap.size w w' := by
  have V := own3 w (.pointer p) 9 (.string nm) 9 (.string t)
  have HC := Lib.hid (fun K1 K2 c1 c2 => (strike_no p (.func (.func K1) #[] c1) (.func (.func K2) #[] c2) true _ (h.below V.below) rfl rfl).mono fun e w' hh => And.intro hh.1 (V.below.trans (hh.2.mono V.below.size)))
  have hmf : ∀ (fn : Fn) (first cap : Array Value) (w : World), (Instr.makeFunc fn first cap).run Tryz.prog w = .ok (.func fn first cap) w := fun _ _ _ _ => rfl
  clear h V
  go_enter Tryz.func29, Tryz.ntmps29
  go_wp2_with (go_at_call 59; refine (HC.out _ _ _ _).mono ?_; rintro e w' ⟨rfl, hW⟩)
  go_ret
  exact ⟨rfl, hW⟩
end
end Go.Proofs.YtlbhegicapggeaaGreat.fil
