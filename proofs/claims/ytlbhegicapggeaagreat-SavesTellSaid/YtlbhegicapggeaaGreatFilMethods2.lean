/- Files: the other four strokes. -/
import Derived.Test.YtlbhegicapggeaaGreatFilMethods
namespace Go.Proofs.YtlbhegicapggeaaGreat.fil
open Go.RowKit Go.Lib Go.Maps Go.WideMaps
set_option linter.unusedVariables false
set_option linter.unusedSimpArgs false
set_option linter.unnecessarySimpa false
set_option linter.unusedSectionVars false

/-- Two variables of a method's own, captured by its two function literals. -/
structure Own2 (w : World) (v1 : Value) (t2 : TypeId) (v2 : Value) (W : World) : Prop where
  below : Below w.heap.size w W
  b1 : Box W w.heap.size 25 v1
  b2 : Box W (w.heap.size + 1) t2 v2
theorem own2 (w : World) (v1 : Value) (t2 : TypeId) (v2 : Value) : Own2 w v1 t2 v2 ((w.alloc (.cells #[v1] 25)).alloc (.cells #[v2] t2)) := by
  refine ⟨((Below.refl _ w).alloc (Nat.le_refl _) _).alloc (by simp) _, (At.new w _ _).alloc _, ?_⟩
  have := At.new (w.alloc (.cells #[v1] 25)) t2 #[v2]
  rw [World.size_alloc] at this
  exact this

section
variable {w w' : World} {F : Nat → Prop} {fb mb : Nat} {D : DataW Unit} {G : List Gf} {dp : Option Addr} {s : St}
theorem Own2.turned {v1 : Value} {t2 : TypeId} {v2 : Value} {W W' : World} (h : Own2 w v1 t2 v2 W) (hn : ∀ b, F b → b < w.heap.size) (hT : Turned F W W') :
    Box W' w.heap.size 25 v1 ∧ Box W' (w.heap.size + 1) t2 v2 :=
  ⟨hT.at h.b1 (fun hf => by have := hn _ hf; omega), hT.at h.b2 (fun hf => by have := hn _ hf; omega)⟩
theorem Own2.boxes {v1 : Value} {t2 : TypeId} {v2 : Value} {W W' : World} (h : Own2 w v1 t2 v2 W) (hB : Below W.heap.size W W') :
    Box W' w.heap.size 25 v1 ∧ Box W' (w.heap.size + 1) t2 v2 := ⟨h.b1.below hB, h.b2.below hB⟩

/-! ### Sync -/
set_option maxHeartbeats 1000000 in
set_option maxRecDepth 100000 in
theorem sync_is (nm : ByteArray) (w : World) (hn : nm.size ≤ maxLen) (h : IsFs w fb s F) :
    Calls Tryz.prog 31 #[.pointer (some ⟨fb, 0, none⟩), .string nm] w fun e w' => e = .returned (.int .i64 (sSync s nm.data.toList).1) ∧ Went F fb (sSync s nm.data.toList).2 w w' := by
  obtain ⟨mb, D, G, dp, h⟩ := h
  have V := own2 w (.pointer (some ⟨fb, 0, none⟩)) 9 (.string nm)
  have C := strike_is (t := doSync s nm.data.toList) (err := errThere s nm.data.toList) 68 69 #[.pointer (some ⟨w.heap.size, 0, none⟩), .pointer (some ⟨w.heap.size + 1, 0, none⟩)] #[.pointer (some ⟨w.heap.size, 0, none⟩), .pointer (some ⟨w.heap.size + 1, 0, none⟩)]
    false _ (h.below V.below) (fun W => by simp [go_sem]) (fun W => by simp [go_sem])
    (fun W hB hF => by
      obtain ⟨x1, x2⟩ := V.boxes hB
      exact syncA _ _ nm W hn x1 x2 hF)
    (fun he q W dp' s0 hF hf hc hT => by
      obtain ⟨x1, x2⟩ := V.turned h.lt hT
      have := syncD (q := q) _ _ nm W hn x1 x2 hF (by rw [errThere_congr hf]; exact he)
      rw [doSync_congr hf] at this
      exact this)
  have HC := Lib.hid (C.mono fun e w' hh => And.intro hh.1 (Wentz.after hh.2 V.below))
  have hmf : ∀ (fn : Fn) (first cap : Array Value) (w : World), (Instr.makeFunc fn first cap).run Tryz.prog w = .ok (.func fn first cap) w := fun _ _ _ _ => rfl
  clear C h V
  go_enter Tryz.func31, Tryz.ntmps31
  go_wp2_with (go_at_call 59; refine HC.out.mono ?_; rintro e w' ⟨rfl, hW⟩)
  go_ret
  exact ⟨rfl, hW⟩
theorem sync_no (p : Option Addr) (nm : ByteArray) (w : World) (h : NoFs w p) :
    Calls Tryz.prog 31 #[.pointer p, .string nm] w fun e w' => e = .returned (.int .i64 1) ∧ Below w.heap.size w w' := by
  have V := own2 w (.pointer p) 9 (.string nm)
  have HC := Lib.hid (fun K1 K2 c1 c2 => (strike_no p (.func (.func K1) #[] c1) (.func (.func K2) #[] c2) false _ (h.below V.below) rfl rfl).mono fun e w' hh => And.intro hh.1 (V.below.trans (hh.2.mono V.below.size)))
  have hmf : ∀ (fn : Fn) (first cap : Array Value) (w : World), (Instr.makeFunc fn first cap).run Tryz.prog w = .ok (.func fn first cap) w := fun _ _ _ _ => rfl
  clear h V
  go_enter Tryz.func31, Tryz.ntmps31
  go_wp2_with (go_at_call 59; refine (HC.out _ _ _ _).mono ?_; rintro e w' ⟨rfl, hW⟩)
  go_ret
  exact ⟨rfl, hW⟩

/-! ### Truncate -/
set_option maxHeartbeats 1000000 in
set_option maxRecDepth 100000 in
theorem trunc_is (nm : ByteArray) (n : Int) (w : World) (hn : nm.size ≤ maxLen) (h : IsFs w fb s F) :
    Calls Tryz.prog 37 #[.pointer (some ⟨fb, 0, none⟩), .string nm, .int .i64 n] w fun e w' => e = .returned (.int .i64 (sTrunc s nm.data.toList n).1) ∧ Went F fb (sTrunc s nm.data.toList n).2 w w' := by
  obtain ⟨mb, D, G, dp, h⟩ := h
  have V := own3 w (.pointer (some ⟨fb, 0, none⟩)) 9 (.string nm) 3 (.int .i64 n)
  have C := strike_is (t := doTrunc s nm.data.toList n) (err := errTrunc s nm.data.toList n) 73 74 #[.pointer (some ⟨w.heap.size, 0, none⟩), .pointer (some ⟨w.heap.size + 1, 0, none⟩), .pointer (some ⟨w.heap.size + 2, 0, none⟩)] #[.pointer (some ⟨w.heap.size, 0, none⟩), .pointer (some ⟨w.heap.size + 1, 0, none⟩), .pointer (some ⟨w.heap.size + 2, 0, none⟩)]
    false _ (h.below V.below) (fun W => by simp [go_sem]) (fun W => by simp [go_sem])
    (fun W hB hF => by
      obtain ⟨x1, x2, x3⟩ := V.boxes hB
      exact truncA _ _ _ nm n W hn x1 x2 x3 hF)
    (fun he q W dp' s0 hF hf hc hT => by
      obtain ⟨x1, x2, x3⟩ := V.turned h.lt hT
      have := truncD (q := q) _ _ _ nm n W hn x1 x2 x3 hF (by rw [errTrunc_congr hf]; exact he)
      rw [doTrunc_congr hf] at this
      exact this)
  have HC := Lib.hid (C.mono fun e w' hh => And.intro hh.1 (Wentz.after hh.2 V.below))
  have hmf : ∀ (fn : Fn) (first cap : Array Value) (w : World), (Instr.makeFunc fn first cap).run Tryz.prog w = .ok (.func fn first cap) w := fun _ _ _ _ => rfl
  clear C h V
  go_enter Tryz.func37, Tryz.ntmps37
  go_wp2_with (go_at_call 59; refine HC.out.mono ?_; rintro e w' ⟨rfl, hW⟩)
  go_ret
  exact ⟨rfl, hW⟩
theorem trunc_no (p : Option Addr) (nm : ByteArray) (n : Int) (w : World) (h : NoFs w p) :
    Calls Tryz.prog 37 #[.pointer p, .string nm, .int .i64 n] w fun e w' => e = .returned (.int .i64 1) ∧ Below w.heap.size w w' := by
  have V := own3 w (.pointer p) 9 (.string nm) 3 (.int .i64 n)
  have HC := Lib.hid (fun K1 K2 c1 c2 => (strike_no p (.func (.func K1) #[] c1) (.func (.func K2) #[] c2) false _ (h.below V.below) rfl rfl).mono fun e w' hh => And.intro hh.1 (V.below.trans (hh.2.mono V.below.size)))
  have hmf : ∀ (fn : Fn) (first cap : Array Value) (w : World), (Instr.makeFunc fn first cap).run Tryz.prog w = .ok (.func fn first cap) w := fun _ _ _ _ => rfl
  clear h V
  go_enter Tryz.func37, Tryz.ntmps37
  go_wp2_with (go_at_call 59; refine (HC.out _ _ _ _).mono ?_; rintro e w' ⟨rfl, hW⟩)
  go_ret
  exact ⟨rfl, hW⟩

/-! ### Rename -/
set_option maxHeartbeats 1000000 in
set_option maxRecDepth 100000 in
theorem rename_is (a b : ByteArray) (w : World) (ha : a.size ≤ maxLen) (hb : b.size ≤ maxLen) (h : IsFs w fb s F) :
    Calls Tryz.prog 33 #[.pointer (some ⟨fb, 0, none⟩), .string a, .string b] w fun e w' => e = .returned (.int .i64 (sRename s a.data.toList b.data.toList).1) ∧ Went F fb (sRename s a.data.toList b.data.toList).2 w w' := by
  obtain ⟨mb, D, G, dp, h⟩ := h
  have V := own3 w (.pointer (some ⟨fb, 0, none⟩)) 9 (.string a) 9 (.string b)
  have C := strike_is (t := doRename s a.data.toList b.data.toList) (err := errRename s a.data.toList b.data.toList) 70 71 #[.pointer (some ⟨w.heap.size, 0, none⟩), .pointer (some ⟨w.heap.size + 1, 0, none⟩), .pointer (some ⟨w.heap.size + 2, 0, none⟩)] #[.pointer (some ⟨w.heap.size, 0, none⟩), .pointer (some ⟨w.heap.size + 1, 0, none⟩), .pointer (some ⟨w.heap.size + 2, 0, none⟩)]
    false _ (h.below V.below) (fun W => by simp [go_sem]) (fun W => by simp [go_sem])
    (fun W hB hF => by
      obtain ⟨x1, x2, x3⟩ := V.boxes hB
      exact renameA _ _ _ a b W ha hb x1 x2 x3 hF)
    (fun he q W dp' s0 hF hf hc hT => by
      obtain ⟨x1, x2, x3⟩ := V.turned h.lt hT
      have := renameD (q := q) _ _ _ a b W ha hb x1 x2 x3 hF (by rw [errRename_congr hf]; exact he)
      rw [doRename_congr hf] at this
      exact this)
  have HC := Lib.hid (C.mono fun e w' hh => And.intro hh.1 (Wentz.after hh.2 V.below))
  have hmf : ∀ (fn : Fn) (first cap : Array Value) (w : World), (Instr.makeFunc fn first cap).run Tryz.prog w = .ok (.func fn first cap) w := fun _ _ _ _ => rfl
  clear C h V
  go_enter Tryz.func33, Tryz.ntmps33
  go_wp2_with (go_at_call 59; refine HC.out.mono ?_; rintro e w' ⟨rfl, hW⟩)
  go_ret
  exact ⟨rfl, hW⟩
theorem rename_no (p : Option Addr) (a b : ByteArray) (w : World) (h : NoFs w p) :
    Calls Tryz.prog 33 #[.pointer p, .string a, .string b] w fun e w' => e = .returned (.int .i64 1) ∧ Below w.heap.size w w' := by
  have V := own3 w (.pointer p) 9 (.string a) 9 (.string b)
  have HC := Lib.hid (fun K1 K2 c1 c2 => (strike_no p (.func (.func K1) #[] c1) (.func (.func K2) #[] c2) false _ (h.below V.below) rfl rfl).mono fun e w' hh => And.intro hh.1 (V.below.trans (hh.2.mono V.below.size)))
  have hmf : ∀ (fn : Fn) (first cap : Array Value) (w : World), (Instr.makeFunc fn first cap).run Tryz.prog w = .ok (.func fn first cap) w := fun _ _ _ _ => rfl
  clear h V
  go_enter Tryz.func33, Tryz.ntmps33
  go_wp2_with (go_at_call 59; refine (HC.out _ _ _ _).mono ?_; rintro e w' ⟨rfl, hW⟩)
  go_ret
  exact ⟨rfl, hW⟩

/-! ### Remove -/
set_option maxHeartbeats 1000000 in
set_option maxRecDepth 100000 in
theorem remove_is (nm : ByteArray) (w : World) (hn : nm.size ≤ maxLen) (h : IsFs w fb s F) :
    Calls Tryz.prog 22 #[.pointer (some ⟨fb, 0, none⟩), .string nm] w fun e w' => e = .returned (.int .i64 (sRemove s nm.data.toList).1) ∧ Went F fb (sRemove s nm.data.toList).2 w w' := by
  obtain ⟨mb, D, G, dp, h⟩ := h
  have V := own2 w (.pointer (some ⟨fb, 0, none⟩)) 9 (.string nm)
  have C := strike_is (t := del s.files nm.data.toList) (err := errThere s nm.data.toList) 60 61 #[.pointer (some ⟨w.heap.size, 0, none⟩), .pointer (some ⟨w.heap.size + 1, 0, none⟩)] #[.pointer (some ⟨w.heap.size, 0, none⟩), .pointer (some ⟨w.heap.size + 1, 0, none⟩)]
    false _ (h.below V.below) (fun W => by simp [go_sem]) (fun W => by simp [go_sem])
    (fun W hB hF => by
      obtain ⟨x1, x2⟩ := V.boxes hB
      exact removeA _ _ nm W hn x1 x2 hF)
    (fun he q W dp' s0 hF hf hc hT => by
      obtain ⟨x1, x2⟩ := V.turned h.lt hT
      have := removeD (q := q) _ _ nm W hn x1 x2 hF
      rw [hf] at this
      exact this)
  have HC := Lib.hid (C.mono fun e w' hh => And.intro hh.1 (Wentz.after hh.2 V.below))
  have hmf : ∀ (fn : Fn) (first cap : Array Value) (w : World), (Instr.makeFunc fn first cap).run Tryz.prog w = .ok (.func fn first cap) w := fun _ _ _ _ => rfl
  clear C h V
  go_enter Tryz.func22, Tryz.ntmps22
  go_wp2_with (go_at_call 59; refine HC.out.mono ?_; rintro e w' ⟨rfl, hW⟩)
  go_ret
  exact ⟨rfl, hW⟩
theorem remove_no (p : Option Addr) (nm : ByteArray) (w : World) (h : NoFs w p) :
    Calls Tryz.prog 22 #[.pointer p, .string nm] w fun e w' => e = .returned (.int .i64 1) ∧ Below w.heap.size w w' := by
  have V := own2 w (.pointer p) 9 (.string nm)
  have HC := Lib.hid (fun K1 K2 c1 c2 => (strike_no p (.func (.func K1) #[] c1) (.func (.func K2) #[] c2) false _ (h.below V.below) rfl rfl).mono fun e w' hh => And.intro hh.1 (V.below.trans (hh.2.mono V.below.size)))
  have hmf : ∀ (fn : Fn) (first cap : Array Value) (w : World), (Instr.makeFunc fn first cap).run Tryz.prog w = .ok (.func fn first cap) w := fun _ _ _ _ => rfl
  clear h V
  go_enter Tryz.func22, Tryz.ntmps22
  go_wp2_with (go_at_call 59; refine (HC.out _ _ _ _).mono ?_; rintro e w' ⟨rfl, hW⟩)
  go_ret
  exact ⟨rfl, hW⟩
end
end Go.Proofs.YtlbhegicapggeaaGreat.fil
