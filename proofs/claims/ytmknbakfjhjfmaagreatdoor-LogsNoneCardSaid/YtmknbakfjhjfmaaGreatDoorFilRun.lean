/- Files, the laws: a file system that was made since then. -/
import Derived.Test.YtmknbakfjhjfmaaGreatDoorFilMethods2
import Derived.Maps.AppendAt
import Derived.Test.YtmknbakfjhjfmaaGreatDoorTwin
/-! Files: New, Crash, Fail, Start. -/
namespace Go.Proofs.YtmknbakfjhjfmaaGreatDoor.fil
open Go.RowKit Go.Lib Go.Maps Go.WideMaps
set_option linter.unusedVariables false
set_option linter.unusedSimpArgs false
set_option linter.unnecessarySimpa false
set_option linter.unusedSectionVars false

section
variable {w w' : World} {F : Nat → Prop} {fb mb : Nat} {D : DataW Unit} {G : List Gf} {dp : Option Addr} {s : St}

/-! ### Crash -/
theorem crash_no (p : Option Addr) (v : Value) (w : World) (h : NoFs w p) : Calls Tryz.prog 12 #[.pointer p, v] w fun e w' => e = .returned (.int .i64 1) ∧ w = w' := by
  have C := Lib.hid (useless_no p w h)
  clear h
  go_enter Tryz.func12, Tryz.ntmps12
  go_wp2_with (go_at_call 31; refine C.out.mono ?_; rintro e w' ⟨rfl, rfl⟩)
  go_ret
  exact ⟨rfl, rfl⟩
theorem keep_at {lo hi : Nat} {A : Option Addr} {ks : List Int} (h : Fs w fb mb D G dp s F) (hK : LRd w lo hi A (iv ks)) (hF : ∀ b, F b → b < lo ∨ hi ≤ b) : KeepAt w fb G A ks := fun h0 => by
  obtain ⟨b, off, e, h1, h2, h3⟩ := hK (by rw [iv_length]; exact h0)
  have hnF : ¬ F b := fun hf => by rcases hF b hf with h4 | h4 <;> omega
  have hc : ∀ j, j < ks.length → w.cell? ⟨b, off + j, none⟩ = some (.int .i64 (ks.getD j 0)) := fun j hj => h3 j _ (by simp [iv, List.getD, List.getElem?_eq_getElem hj])
  exact ⟨b, off, e, World.block_lt_of_cell? _ _ (hc 0 h0), fun e2 => hnF (e2 ▸ h.mineF), fun g hg e2 => hnF (e2 ▸ (h.each g hg).mine), hc⟩
theorem crash_is (A : Option Addr) (c lo hi : Nat) (ks : List Int) (w : World) (hkl : ks.length ≤ 9223372036854775807) (hK : LRd w lo hi A (iv ks)) (hF : ∀ b, F b → b < lo ∨ hi ≤ b) (h : IsFs w fb s F) :
    Calls Tryz.prog 12 #[.pointer (some ⟨fb, 0, none⟩), .slice A ks.length c] w fun e w' => e = .returned (.int .i64 (sCrash s ks).1) ∧ Went F fb (sCrash s ks).2 w w' := by
  have HS := Lib.hid h
  obtain ⟨mb, D, G, dp, h⟩ := h
  have C := Lib.hid (useless_is w h)
  have C2 := Lib.hid (lose_is A c ks w hkl (keep_at h hK hF) h)
  unfold down at C
  unfold sCrash
  clear h hK hF
  by_cases ho : s.off = true
  · rw [if_pos ho] at C
    rw [if_pos ho]
    go_enter Tryz.func12, Tryz.ntmps12
    go_wp2_with (go_at_call 31; refine C.out.mono ?_; rintro e w' ⟨rfl, rfl⟩)
    go_ret
    exact ⟨rfl, Wentz.refl HS.out⟩
  · rw [if_neg ho] at C
    rw [if_neg ho]
    go_enter Tryz.func12, Tryz.ntmps12
    go_wp2_with (first | (go_at_call 31; refine C.out.mono ?_; rintro e w' ⟨rfl, rfl⟩) | (go_at_call 32; refine C2.out.mono ?_; rintro e w' ⟨rfl, hW⟩))
    go_ret
    exact ⟨rfl, hW⟩

/-! ### Start -/
theorem start_no (p : Option Addr) (w : World) (h : NoFs w p) : Calls Tryz.prog 16 #[.pointer p] w fun e w' => e = .returned (.int .i64 1) ∧ w = w' := by
  have C := Lib.hid (isNone_no p w h)
  clear h
  go_enter Tryz.func16, Tryz.ntmps16
  go_wp2_with (go_at_call 35; refine C.out.mono ?_; rintro e w' ⟨rfl, rfl⟩)
  go_ret
  exact ⟨rfl, rfl⟩
theorem start_is (w : World) (hs : s.starts ≤ 1000000) (h : IsFs w fb s F) :
    Calls Tryz.prog 16 #[.pointer (some ⟨fb, 0, none⟩)] w fun e w' => e = .returned (.int .i64 (sStart s).1) ∧ Went F fb (sStart s).2 w w' := by
  have HS := Lib.hid h
  obtain ⟨mb, D, G, dp, h⟩ := h
  have C := Lib.hid (isNone_is w h)
  obtain ⟨_, _, c2, c3, _, cf⟩ := h.cells
  have f2 := cf 2
  have f3 := cf 3
  unfold sStart
  by_cases ho : s.off = true
  · rw [ho] at c2
    rw [if_pos ho]
    have HE : Hid (Went F fb { s with off := false, starts := s.starts + 1 } w ((w.setCell ⟨fb, 2, none⟩ (.bool false)).setCell ⟨fb, 3, none⟩ (.int .i64 ((s.starts : Int) + 1)))) := Lib.hid (by
      have hT : Turned (fun b => b = fb) w ((w.setCell ⟨fb, 2, none⟩ (.bool false)).setCell ⟨fb, 3, none⟩ (.int .i64 ((s.starts : Int) + 1))) := ((Turned.refl (fun b => b = fb) w).setCell (p := ⟨fb, 2, none⟩) (.inl rfl) _).setCell (p := ⟨fb, 3, none⟩) (.inl rfl) _
      have hO : Ok { s with off := false, starts := s.starts + 1 } := h.ok.set h.ok.f _ _ _ h.ok.due
      exact ⟨hT.mono fun b e => by rw [e]; exact h.mineF, F, fun _ hb => .inl hb, mb, D, G, dp, h.turnHead (s' := { s with off := false, starts := s.starts + 1 }) (fun b hb => hb) (fun b hb => Nat.lt_of_lt_of_le (h.lt b hb) hT.size)
        (fun b t cs hA ht => hT.block b hA.lt (hA.ne h.head (by rcases ht with rfl | rfl <;> decide))) (hT.block mb h.map.lt (Ne.symm h.neMap)) (At.set (At.set h.head 2 (.bool false)) 3 (.int .i64 ((s.starts : Int) + 1))) rfl
        (h.due.kept fun b t cs hA ht => hT.block b hA.lt (hA.ne h.head (by rcases ht with rfl | rfl <;> decide))) hO⟩)
    clear h cf
    go_enter Tryz.func16, Tryz.ntmps16
    go_wp2_with (go_at_call 35; refine C.out.mono ?_; rintro e w' ⟨rfl, rfl⟩)
    go_ret
    exact ⟨rfl, HE.out⟩
  · have ho' : s.off = false := by simpa using ho
    rw [ho'] at c2
    rw [if_neg ho]
    clear h cf
    go_enter Tryz.func16, Tryz.ntmps16
    go_wp2_with (go_at_call 35; refine C.out.mono ?_; rintro e w' ⟨rfl, rfl⟩)
    go_ret
    exact ⟨rfl, Wentz.refl HS.out⟩

/-! ### New -/
theorem new_no (n : Int) (w : World) (h : n < 1 ∨ 1048576 < n) : Calls Tryz.prog 10 #[.int .i64 n] w fun e w' => e = .returned (.tuple #[.pointer none, .int .i64 2]) ∧ w = w' := by
  rcases h with h | h
  · go_enter Tryz.func10, Tryz.ntmps10
    go_wp2
    go_ret2
    exact ⟨rfl, rfl⟩
  · have h1 : ¬ n < 1 := by omega
    go_enter Tryz.func10, Tryz.ntmps10
    go_wp2
    go_ret2
    exact ⟨rfl, rfl⟩
theorem new_is (n : Nat) (w : World) (h1 : 1 ≤ n) (h2 : n ≤ 1048576) :
    Calls Tryz.prog 10 #[.int .i64 n] w fun e w' => e = .returned (.tuple #[.pointer (some ⟨w.heap.size + 1, 0, none⟩), .int .i64 0]) ∧ Below w.heap.size w w' ∧ IsFs w' (w.heap.size + 1) (sNew n) (fun b => w.heap.size ≤ b ∧ b < w'.heap.size) := by
  have h3 : ¬ (n : Int) < 1 := by omega
  have h4 : ¬ (1048576 : Int) < (n : Int) := by omega
  have hmm := @run_makeMap Tryz.prog
  have HE : Hid (IsFs ((w.alloc (.map #[] 0)).alloc (.cells #[.int .i64 n, .map (some w.heap.size), .bool false, .int .i64 0, .pointer none] 65)) (w.heap.size + 1) (sNew n)
      (fun b => w.heap.size ≤ b ∧ b < ((w.alloc (.map #[] 0)).alloc (.cells #[.int .i64 n, .map (some w.heap.size), .bool false, .int .i64 0, .pointer none] 65)).heap.size)) := Lib.hid (by
    have hA := At.new (w.alloc (.map #[] 0)) 65 #[.int .i64 n, .map (some w.heap.size), .bool false, .int .i64 0, .pointer none]
    rw [World.size_alloc] at hA
    have hM : (w.alloc (.map #[] 0)).ownsMap Tryz.prog 9 ptrE w.heap.size 0 (.map []) := World.ownsMap_made _ _ _ _
    refine ⟨w.heap.size, .map [], [], none, ok_new h1 h2, hA, hM.alloc _, MapIs.start, rfl, by simp, List.Pairwise.nil, rfl, ⟨by omega, by simp⟩, ⟨by omega, by simp; omega⟩, fun b hb => hb.2⟩)
  go_enter Tryz.func10, Tryz.ntmps10
  go_wp2
  go_ret2
  exact ⟨rfl, ((Below.refl _ w).alloc (Nat.le_refl _) _).alloc (by simp) _, HE.out⟩
end
end Go.Proofs.YtmknbakfjhjfmaaGreatDoor.fil

/-! Files: Fail, Unsynced. -/
namespace Go.Proofs.YtmknbakfjhjfmaaGreatDoor.fil
open Go.RowKit Go.Lib Go.Maps Go.WideMaps
set_option linter.unusedVariables false
set_option linter.unusedSimpArgs false
set_option linter.unnecessarySimpa false
set_option linter.unusedSectionVars false

section
variable {w w' : World} {F : Nat → Prop} {fb mb : Nat} {D : DataW Unit} {G : List Gf} {dp : Option Addr} {s : St}

theorem set_inward (w : World) (o : Obj) {b i : Nat} {v : Value} (hb : b < w.heap.size) : (w.alloc o).setCell ⟨b, i, none⟩ v = (w.setCell ⟨b, i, none⟩ v).alloc o := by
  first | exact World.setCell_alloc_past _ _ _ _ _ hb | simp [go_sem, hb]

theorem fail_went {w w1 : World} {n : Nat} {ks : List Int} {B : Option Addr} {d : Nat} (h : Fs w fb mb D G dp s F) (hn : n ≤ 9223372036854775807) (hk : ks.length ≤ 32) (hB : Below w.heap.size w w1) (hr : w1.ownsRow w.heap.size 3 1 (.slice B ks.length d) ks.length (iv ks)) :
    Went F fb { s with due := some (n, ks) } w ((w1.alloc (.cells #[.int .i64 n, .slice B ks.length d] 116)).setCell ⟨fb, 4, none⟩ (.pointer (some ⟨w1.heap.size, 0, none⟩))) := by
  have hB2 : Below w1.heap.size w1 (w1.alloc (.cells #[.int .i64 n, .slice B ks.length d] 116)) := (Below.refl _ _).alloc (Nat.le_refl _) _
  have hA := At.new w1 116 #[.int .i64 n, .slice B ks.length d]
  generalize hW : w1.alloc (.cells #[.int .i64 n, .slice B ks.length d] 116) = W at *
  have h2 := (h.below hB).below hB2
  have hT : Turned (fun b => b = fb) W (W.setCell ⟨fb, 4, none⟩ (.pointer (some ⟨w1.heap.size, 0, none⟩))) := (Turned.refl (fun b => b = fb) W).setCell (p := ⟨fb, 4, none⟩) (.inl rfl) _
  have hTw : Turned F w (W.setCell ⟨fb, 4, none⟩ (.pointer (some ⟨w1.heap.size, 0, none⟩))) :=
    ((Turned.of_below hB F).then_below hB2).trans (hT.mono (F' := F) fun b e => by rw [e]; exact h.mineF) (fun b hb => .inl hb)
  have hr2 : W.ownsRow w.heap.size 3 1 (.slice B ks.length d) ks.length (iv ks) := own_same hr (fun b e => hB2.block b (hr.lt b e).2)
  refine ⟨hTw, Plus F w (W.setCell ⟨fb, 4, none⟩ (.pointer (some ⟨w1.heap.size, 0, none⟩))), fun b hb => hb.imp id fun h => h.1, mb, D, G, some ⟨w1.heap.size, 0, none⟩, ?_⟩
  refine h2.turnHead (s' := { s with due := some (n, ks) }) (fun b hb => .inl hb) (Plus.lt h hTw.size) (fun b t cs hA' ht => hT.block b hA'.lt (hA'.ne h2.head (by rcases ht with rfl | rfl <;> decide))) (hT.block mb h2.map.lt (Ne.symm h2.neMap))
    (At.set h2.head 4 _) rfl ?_ (h.ok.set h.ok.f _ _ _ (fun n' ks' e => by simp only [Option.some.injEq, Prod.mk.injEq] at e; obtain ⟨rfl, rfl⟩ := e; exact ⟨hn, hk⟩))
  have hz := hB.size
  have hz2 := hT.size
  refine ⟨w1.heap.size, _, _, rfl, hA.same (hT.block _ hA.lt (hA.ne h2.head (by decide))), .inr ⟨hz, Nat.lt_of_lt_of_le hA.lt hz2⟩, own_base (own_same hr2 (fun b e => ?_)), fun b e => ?_, fun _ => rfl⟩
  · obtain ⟨cs, hc⟩ := own_at hr2 e
    exact hT.block b hc.lt (hc.ne h2.head (by decide))
  · exact .inr ⟨(hr2.lt b e).1, Nat.lt_of_lt_of_le (hr2.lt b e).2 hz2⟩

/-! ### Unsynced -/
def airOf (l : List Fl) : List Int := l.map fun x => ((x.bytes.length - x.plat : Nat) : Int)
theorem airOf_length (l : List Fl) : (airOf l).length = l.length := by simp [airOf]
theorem own_base_le {w : World} {base base' e size n : Nat} {v : Value} {xs : List Value} (h : w.ownsRow base e size v n xs) (hb : base' ≤ base) : w.ownsRow base' e size v n xs := by
  refine ⟨h.1, ?_⟩
  rcases h.2 with h0 | ⟨g, cap, cur, rfl, hg, r⟩
  · exact .inl h0
  · exact .inr ⟨g, cap, cur, rfl, Nat.le_trans hb hg, r⟩
theorem info3 : (Tryz.prog.info? 3).map (fun i => (i.zero, i.size, i.bytes)) = some (some (.int .i64 0), 1, 8) := by kernel_rfl
end
end Go.Proofs.YtmknbakfjhjfmaaGreatDoor.fil

/-! Files, the laws: what is done to a file system, one thing of it. -/
namespace Go.Proofs.YtmknbakfjhjfmaaGreatDoor.fil
open Go.RowKit Go.Lib Go.Maps Go.WideMaps
set_option linter.unusedVariables false
set_option linter.unusedSimpArgs false
set_option linter.unnecessarySimpa false
set_option linter.unusedSectionVars false

/-- A thing that is done. -/
structure Dt where
  what : Nat
  a : ByteArray
  b : ByteArray
  t : ByteArray
  n : Int
  kA : Option Addr
  kc : Nat
  k : List Int
def Dt.cells (d : Dt) : List Value := [.int .u8 d.what, .string d.a, .string d.b, .string d.t, .int .i64 d.n, .slice d.kA d.k.length d.kc]
def Dt.val (d : Dt) : Value := .agg #[.int .u8 d.what, .string d.a, .string d.b, .string d.t, .int .i64 d.n, .slice d.kA d.k.length d.kc]
structure Dt.Ok (d : Dt) : Prop where
  what : d.what < 256
  a : d.a.size ≤ maxLen
  b : d.b.size ≤ maxLen
  t : d.t.size ≤ maxLen
  n1 : -9223372036854775808 ≤ d.n
  n2 : d.n ≤ 9223372036854775807
  k : d.k.length ≤ d.kc
  kc : d.kc ≤ maxLen

def step (s : St) (d : Dt) : Int × St :=
  if d.what % 12 = 3 ∨ d.what % 12 = 4 then sSync s d.a.data.toList
  else if d.what % 12 = 5 then sTrunc s d.a.data.toList d.n
  else if d.what % 12 = 6 then sRename s d.a.data.toList d.b.data.toList
  else if d.what % 12 = 7 then sRemove s d.a.data.toList
  else if d.what % 12 = 8 then sCrash s d.k
  else if d.what % 12 = 9 ∨ d.what % 12 = 10 then sStart s
  else if d.what % 12 = 11 then sFail s d.n d.k
  else sAppend s d.a.data.toList d.t.data.toList
theorem ok_step {s : St} (h : Ok s) {d : Dt} (hd : d.Ok) : Ok (step s d).2 := by
  unfold step
  repeat' split
  · exact ok_sync h _
  · exact ok_trunc h _ _
  · exact ok_rename h _ _
  · exact ok_remove h _
  · exact ok_sCrash h _
  · exact ok_start h
  · exact ok_fail h _ _ hd.n2
  · exact ok_append h _ _
theorem stroke_starts (s : St) (e : Int) (early : Bool) (t : List Fl) : (stroke s e early t).2.starts = s.starts := by
  unfold stroke crash
  repeat' split
  all_goals rfl
theorem step_starts (s : St) (d : Dt) : (step s d).2.starts ≤ s.starts + 1 := by
  unfold step sSync sTrunc sRename sRemove sAppend
  repeat' split
  all_goals first
    | (rw [stroke_starts]; omega)
    | (unfold sCrash crash; split <;> simp)
    | (unfold sStart; split <;> simp)
    | (unfold sFail; repeat' split
       all_goals simp)

section
variable {w w' : World} {F : Nat → Prop} {fb : Nat} {s : St}
end
end Go.Proofs.YtmknbakfjhjfmaaGreatDoor.fil

/-! Files, the laws: whether two lists of numbers are one; what each file has. -/
namespace Go.Proofs.YtmknbakfjhjfmaaGreatDoor.fil
open Go.RowKit Go.Lib Go.Maps Go.WideMaps
set_option linter.unusedVariables false
set_option linter.unusedSimpArgs false
set_option linter.unnecessarySimpa false
set_option linter.unusedSectionVars false

theorem LRd.ints {w : World} {lo hi : Nat} {A : Option Addr} {xs : List Int} (h : LRd w lo hi A (iv xs)) (h0 : 0 < xs.length) : ∃ b off, A = some ⟨b, off, none⟩ ∧ ∀ j, j < xs.length → w.cell? ⟨b, off + j, none⟩ = some (.int .i64 (xs.getD j 0)) := by
  obtain ⟨b, off, e, _, _, h3⟩ := h (by rw [iv_length]; exact h0)
  exact ⟨b, off, e, fun j hj => h3 j _ (by simp [iv, List.getD, List.getElem?_eq_getElem hj])⟩

/-- A list that a call told, in memory of its own. -/
def Told (w : World) (xs : List Value) (v : Value) (w' : World) : Prop :=
  ∃ A c, v = .slice A xs.length c ∧ xs.length ≤ c ∧ c ≤ maxLen ∧ (A = none → c = 0) ∧ LRd w' w.heap.size w'.heap.size A xs
theorem Told.of_own {w w' : World} {v : Value} {xs : List Value} {n : Nat} (h : w'.ownsRow w.heap.size 9 1 v n xs) : Told w xs v w' := by
  have hn : xs.length = n := by simpa using h.1
  subst hn
  obtain ⟨A, c, rfl, h1, h2⟩ := own_form2 h
  refine ⟨A, c, rfl, h1, h2, fun hA => ?_, LRd.of_own h⟩
  subst hA
  rcases h.2 with ⟨hv, _⟩ | ⟨g, cap, cur, hv, _⟩
  · injection hv
  · cases hv

def bytesOf (l : List Fl) : List (List UInt8) := l.map (·.bytes)
theorem bytesOf_length (l : List Fl) : (bytesOf l).length = l.length := by simp [bytesOf]
theorem info9 : (Tryz.prog.info? 9).map (fun i => (i.zero, i.size, i.bytes)) = some (some (.string ⟨#[]⟩), 1, 16) := by kernel_rfl
theorem one_str (s : ByteArray) : ∀ u ∈ [Value.string s], u.oneCell' = true := by
  intro u hu; rw [List.mem_singleton.1 hu]; rfl

section
variable {F : Nat → Prop} {fb mb : Nat} {D : DataW Unit} {G : List Gf} {dp : Option Addr} {s : St}
end
end Go.Proofs.YtmknbakfjhjfmaaGreatDoor.fil

/-! Files, the laws: lists of things that are done. -/
namespace Go.Proofs.YtmknbakfjhjfmaaGreatDoor.fil
open Go.RowKit Go.Lib Go.Maps Go.WideMaps
set_option linter.unusedVariables false
set_option linter.unusedSimpArgs false
set_option linter.unnecessarySimpa false
set_option linter.unusedSectionVars false

theorem LRd.belowN {w w' : World} {lo hi : Nat} {A : Option Addr} {xs : List Value} (h : LRd w lo hi A xs) (hB : Below hi w w') : LRd w' lo hi A xs := fun h0 => by
  obtain ⟨b, off, e, h1, h2, h3⟩ := h h0
  exact ⟨b, off, e, h1, h2, fun j u hj => (hB.cell (p := ⟨b, off + j, none⟩) h2).trans (h3 j u hj)⟩

def flat (ds : List Dt) : List Value := ds.flatMap Dt.cells
theorem flat_length (ds : List Dt) : (flat ds).length = ds.length * 6 := by
  induction ds with
  | nil => rfl
  | cons d ds ih => simp only [flat, List.flatMap_cons, List.length_append] at ih ⊢; rw [ih, List.length_cons]; simp [Dt.cells]; omega
theorem flat_get : ∀ (ds : List Dt) (i j : Nat) (d : Dt), ds[i]? = some d → j < 6 → (flat ds)[i * 6 + j]? = d.cells[j]?
  | e :: ds, 0, j, d, h, hj => by
    simp at h; subst h
    simp only [flat, List.flatMap_cons]
    rw [List.getElem?_append_left (by simp [Dt.cells]; omega)]
    congr 1; omega
  | e :: ds, i + 1, j, d, h, hj => by
    have ih := flat_get ds i j d (by simpa using h) hj
    simp only [flat, List.flatMap_cons] at ih ⊢
    rw [List.getElem?_append_right (by simp [Dt.cells]; omega)]
    rw [← ih]
    congr 1
    simp [Dt.cells]; omega

/-- A list of things, read behind the address A, below block hi. -/
structure Dos (w : World) (hi : Nat) (A : Option Addr) (ds : List Dt) : Prop where
  cells : LRd w 0 hi A (flat ds)
  lists : ∀ d ∈ ds, LRd w 0 hi d.kA (iv d.k)
  ok : ∀ d ∈ ds, d.Ok
theorem Dos.belowN {w w' : World} {hi : Nat} {A : Option Addr} {ds : List Dt} (h : Dos w hi A ds) (hB : Below hi w w') : Dos w' hi A ds :=
  ⟨h.cells.belowN hB, fun d hd => (h.lists d hd).belowN hB, h.ok⟩
theorem Dos.at {w : World} {hi : Nat} {A : Option Addr} {ds : List Dt} (h : Dos w hi A ds) {i : Nat} {d : Dt} (hd : ds[i]? = some d) : ∃ b off, A = some ⟨b, off, none⟩ ∧ b < hi ∧
    w.cell? ⟨b, off + i * 6, none⟩ = some (.int .u8 d.what) ∧ w.cell? ⟨b, off + i * 6 + 1, none⟩ = some (.string d.a) ∧ w.cell? ⟨b, off + i * 6 + 2, none⟩ = some (.string d.b) ∧ w.cell? ⟨b, off + i * 6 + 3, none⟩ = some (.string d.t) ∧
    w.cell? ⟨b, off + i * 6 + 4, none⟩ = some (.int .i64 d.n) ∧ w.cell? ⟨b, off + i * 6 + 5, none⟩ = some (.slice d.kA d.k.length d.kc) := by
  have hi' : i < ds.length := (List.getElem?_eq_some_iff.1 hd).1
  obtain ⟨b, off, e, _, h2, h3⟩ := h.cells (by rw [flat_length]; omega)
  have g : ∀ j, j < 6 → ∀ u, d.cells[j]? = some u → w.cell? ⟨b, off + i * 6 + j, none⟩ = some u := fun j hj u hu => by
    rw [Nat.add_assoc]
    exact h3 _ u ((flat_get ds i j d hd hj).trans hu)
  exact ⟨b, off, e, h2, g 0 (by omega) _ rfl, g 1 (by omega) _ rfl, g 2 (by omega) _ rfl, g 3 (by omega) _ rfl, g 4 (by omega) _ rfl, g 5 (by omega) _ rfl⟩

/-- What Much says: yes; or no, and it is not. -/
def MuchSays (ds : List Dt) (w : World) (e : Ending) (w' : World) : Prop :=
  (e = .returned (.bool true) ∨ (e = .returned (.bool false) ∧ ds.length ≤ 120 ∧ ∀ d ∈ ds, d.k.length ≤ 60)) ∧ Below w.heap.size w w'

end Go.Proofs.YtmknbakfjhjfmaaGreatDoor.fil

/-! Files, the laws: the chapter's examples. -/
namespace Go.Proofs.YtmknbakfjhjfmaaGreatDoor.fil
open Go.RowKit Go.Lib Go.Maps Go.WideMaps
set_option linter.unusedVariables false
set_option linter.unusedSimpArgs false
set_option linter.unnecessarySimpa false
set_option linter.unusedSectionVars false

/-- The examples' things; their two lists lie in the blocks n and n + 1. -/
def acts (n : Nat) : List Dt :=
  [⟨0, B [98], B [], B [120, 121, 122], 0, none, 0, []⟩, ⟨3, B [98], B [], B [], 0, none, 0, []⟩, ⟨0, B [98], B [], B [117, 118], 0, none, 0, []⟩, ⟨0, B [97], B [], B [49, 50, 51, 52, 53], 0, none, 0, []⟩, ⟨0, B [97], B [], B [54], 0, none, 0, []⟩,
   ⟨8, B [], B [], B [], 0, some ⟨n, 0, none⟩, 2, [3, 1]⟩, ⟨9, B [], B [], B [], 0, none, 0, []⟩, ⟨11, B [], B [], B [], 1, some ⟨n + 1, 0, none⟩, 2, [0, 9]⟩, ⟨5, B [98], B [], B [], 2, none, 0, []⟩, ⟨0, B [98], B [], B [113], 0, none, 0, []⟩, ⟨9, B [], B [], B [], 0, none, 0, []⟩]
def wants : List Int := [0, 0, 0, 0, 50, 0, 0, 0, 0, 51, 0]
def run10 (i : Nat) : St := ((acts 0).take i).foldl (fun s d => (step s d).2) (sNew 10)
theorem acts_length (n : Nat) : (acts n).length = 11 := rfl
theorem run_step (n : Nat) : ∀ i, i < 11 → ∀ d, (acts n)[i]? = some d → step (run10 i) d = (wants.getD i 0, run10 (i + 1)) := by
  have key : ∀ i, i < 11 → (step (run10 i) ((acts 0).getD i ⟨0, B [], B [], B [], 0, none, 0, []⟩)).1 = wants.getD i 0 := by decide +kernel
  intro i hi d hd
  have e : step (run10 i) d = step (run10 i) ((acts 0).getD i ⟨0, B [], B [], B [], 0, none, 0, []⟩) := by
    match i, hi with
    | 0, _ | 1, _ | 2, _ | 3, _ | 4, _ | 5, _ | 6, _ | 7, _ | 8, _ | 9, _ | 10, _ => injection hd with hd; rw [← hd]; rfl
  have hlt : i < (acts 0).length := hi
  rw [e]
  refine Prod.ext (key i hi) ?_
  show _ = ((acts 0).take (i + 1)).foldl _ _
  rw [List.take_add_one, List.getElem?_eq_getElem hlt, List.foldl_append]
  simp [List.getD, List.getElem?_eq_getElem hlt, run10]
theorem run_air : airOf (run10 5).files = [5, 2] := by decide +kernel
theorem run_a : reads (run10 11) [97] = ([49, 50, 51], 0) := by decide +kernel
theorem run_b : reads (run10 11) [98] = ([120, 121, 113], 0) := by decide +kernel
theorem run_starts : (run10 11).starts = 2 := by decide +kernel
theorem run_few (i : Nat) : (run10 i).starts ≤ i := by
  have : ∀ (l : List Dt) (s : St), (l.foldl (fun s d => (step s d).2) s).starts ≤ s.starts + l.length := by
    intro l
    induction l with
    | nil => intro s; exact Nat.le_refl _
    | cons d l ih =>
      intro s
      have h1 := ih (step s d).2
      have h2 := step_starts s d
      rw [List.foldl_cons, List.length_cons]
      omega
  have h1 := this ((acts 0).take i) (sNew 10)
  rw [List.length_take] at h1
  have h2 : (sNew 10).starts = 0 := rfl
  unfold run10
  omega
theorem acts_ok (n : Nat) : ∀ d ∈ acts n, d.Ok := by
  intro d hd
  simp only [acts, List.mem_cons, List.not_mem_nil, or_false] at hd
  rcases hd with rfl | rfl | rfl | rfl | rfl | rfl | rfl | rfl | rfl | rfl | rfl <;> exact ⟨by simp, by simp [B_size, maxLen], by simp [B_size, maxLen], by simp [B_size, maxLen], by simp, by simp, by simp, by simp [maxLen]⟩
end Go.Proofs.YtmknbakfjhjfmaaGreatDoor.fil

/-! Files, the laws: a file system that was made since then. -/
namespace Go.Proofs.YtmknbakfjhjfmaaGreatDoor.fil
open Go.RowKit Go.Lib Go.Maps Go.WideMaps
set_option linter.unusedVariables false
set_option linter.unusedSimpArgs false
set_option linter.unnecessarySimpa false
set_option linter.unusedSectionVars false

/-- What lies below block n is as it was at w0, and a file system lies above. -/
structure Run (n : Nat) (w0 : World) (fb : Nat) (s : St) (w : World) : Prop where
  below : Below n w0 w
  room : n ≤ w0.heap.size
  is : ∃ F, (∀ b, F b → n ≤ b) ∧ IsFs w fb s F

section
variable {n fb : Nat} {w0 w w' : World} {s s' : St} {F : Nat → Prop}
theorem Run.size (h : Run n w0 fb s w) : n ≤ w.heap.size := Nat.le_trans h.room h.below.size
theorem Run.ok (h : Run n w0 fb s w) : Ok s := by obtain ⟨F, _, hF⟩ := h.is; exact hF.ok
theorem Run.move (h : Run n w0 fb s w) (hB : Below w.heap.size w w') : Run n w0 fb s w' := by
  obtain ⟨F, h1, h2⟩ := h.is
  exact ⟨h.below.trans (hB.mono h.size), h.room, F, h1, h2.below hB⟩
theorem Run.went (hb : Below n w0 w) (hr : n ≤ w0.heap.size) (hF : ∀ b, F b → n ≤ b) (hW : Went F fb s' w w') : Run n w0 fb s' w' := by
  obtain ⟨hT, F', h1, h2⟩ := hW
  have hs := hb.size
  refine ⟨hb.trans (hT.below (by omega) hF), hr, F', fun b hb => ?_, h2⟩
  rcases h1 b hb with h | h
  · exact hF b h
  · omega
theorem new_run (m : Nat) (w : World) (h1 : 1 ≤ m) (h2 : m ≤ 1048576) :
    Calls Tryz.prog 10 #[.int .i64 m] w fun e w' => e = .returned (.tuple #[.pointer (some ⟨w.heap.size + 1, 0, none⟩), .int .i64 0]) ∧ Run w.heap.size w (w.heap.size + 1) (sNew m) w' :=
  (new_is m w h1 h2).mono fun e w' ⟨he, hB, hI⟩ => ⟨he, hB, Nat.le_refl _, _, fun b hb => hb.1, hI⟩
theorem crash_run (A : Option Addr) (c : Nat) (ks : List Int) (hkl : ks.length ≤ 9223372036854775807) (hk : LRd w 0 n A (iv ks)) (h : Run n w0 fb s w) :
    Calls Tryz.prog 12 #[.pointer (some ⟨fb, 0, none⟩), .slice A ks.length c] w fun e w' => e = .returned (.int .i64 (sCrash s ks).1) ∧ Run n w0 fb (sCrash s ks).2 w' := by
  obtain ⟨F, h1, h2⟩ := h.is
  exact (crash_is A c 0 n ks w hkl hk (fun b hb => .inr (h1 b hb)) h2).mono fun e w' ⟨he, hW⟩ => ⟨he, Run.went h.below h.room h1 hW⟩
theorem start_run (hs : s.starts ≤ 1000000) (h : Run n w0 fb s w) :
    Calls Tryz.prog 16 #[.pointer (some ⟨fb, 0, none⟩)] w fun e w' => e = .returned (.int .i64 (sStart s).1) ∧ Run n w0 fb (sStart s).2 w' := by
  obtain ⟨F, h1, h2⟩ := h.is
  exact (start_is w hs h2).mono fun e w' ⟨he, hW⟩ => ⟨he, Run.went h.below h.room h1 hW⟩
theorem append_run (nm t : ByteArray) (hn : nm.size ≤ maxLen) (ht : t.size ≤ maxLen) (h : Run n w0 fb s w) :
    Calls Tryz.prog 22 #[.pointer (some ⟨fb, 0, none⟩), .string nm, .string t] w fun e w' => e = .returned (.int .i64 (sAppend s nm.data.toList t.data.toList).1) ∧ Run n w0 fb (sAppend s nm.data.toList t.data.toList).2 w' := by
  obtain ⟨F, h1, h2⟩ := h.is
  exact (append_is nm t w hn ht h2).mono fun e w' ⟨he, hW⟩ => ⟨he, Run.went h.below h.room h1 hW⟩
theorem sync_run (nm : ByteArray) (hn : nm.size ≤ maxLen) (h : Run n w0 fb s w) :
    Calls Tryz.prog 23 #[.pointer (some ⟨fb, 0, none⟩), .string nm] w fun e w' => e = .returned (.int .i64 (sSync s nm.data.toList).1) ∧ Run n w0 fb (sSync s nm.data.toList).2 w' := by
  obtain ⟨F, h1, h2⟩ := h.is
  exact (sync_is nm w hn h2).mono fun e w' ⟨he, hW⟩ => ⟨he, Run.went h.below h.room h1 hW⟩
theorem rename_run (nm t : ByteArray) (hn : nm.size ≤ maxLen) (ht : t.size ≤ maxLen) (h : Run n w0 fb s w) :
    Calls Tryz.prog 51 #[.pointer (some ⟨fb, 0, none⟩), .string nm, .string t] w fun e w' => e = .returned (.int .i64 (sRename s nm.data.toList t.data.toList).1) ∧ Run n w0 fb (sRename s nm.data.toList t.data.toList).2 w' := by
  obtain ⟨F, h1, h2⟩ := h.is
  exact (rename_is nm t w hn ht h2).mono fun e w' ⟨he, hW⟩ => ⟨he, Run.went h.below h.room h1 hW⟩

/-- Calls that only tell. -/
theorem up_run (h : Run n w0 fb s w) : Calls Tryz.prog 36 #[.pointer (some ⟨fb, 0, none⟩)] w fun e w' => e = .returned (.bool (!s.off)) ∧ w = w' := by
  obtain ⟨F, _, mb, D, G, dp, h⟩ := h.is
  exact up_is w h
theorem starts_run (h : Run n w0 fb s w) : Calls Tryz.prog 28 #[.pointer (some ⟨fb, 0, none⟩)] w fun e w' => e = .returned (.int .i64 s.starts) ∧ w = w' := by
  obtain ⟨F, _, mb, D, G, dp, h⟩ := h.is
  exact starts_is w h
theorem read_run (nm : ByteArray) (hn : nm.size ≤ maxLen) (h : Run n w0 fb s w) : Calls Tryz.prog 33 #[.pointer (some ⟨fb, 0, none⟩), .string nm] w fun e w' => e = .returned (.tuple #[.string (B (reads s nm.data.toList).1), .int .i64 (reads s nm.data.toList).2]) ∧ w = w' := by
  obtain ⟨F, _, mb, D, G, dp, h⟩ := h.is
  exact read_is nm w hn h
theorem size_run (h : Run n w0 fb s w) : Calls Tryz.prog 72 #[.pointer (some ⟨fb, 0, none⟩)] w fun e w' => e = .returned (.int .i64 (total s.files)) ∧ Below w.heap.size w w' := by
  obtain ⟨F, _, mb, D, G, dp, h⟩ := h.is
  exact size_is w h

/-- A list that a call told, in memory of its own. -/
def Tells (w : World) (len : Nat) (xs : List Value) (e : Ending) (w' : World) : Prop :=
  ∃ A c, e = .returned (.slice A len c) ∧ len ≤ c ∧ c ≤ maxLen ∧ LRd w' w.heap.size w'.heap.size A xs ∧ Below w.heap.size w w'
theorem names_run (h : Run n w0 fb s w) : Calls Tryz.prog 55 #[.pointer (some ⟨fb, 0, none⟩)] w (Tells w s.files.length (strV (namesOf s.files))) := by
  obtain ⟨F, _, mb, D, G, dp, h⟩ := h.is
  exact (names_list w h).mono fun e w' ⟨A, c, he, h1, h2, _, h3, h4⟩ => ⟨A, c, he, h1, h2, h3, h4⟩
theorem B_inj {a b : List UInt8} (h : B a = B b) : a = b := by
  have := congrArg (fun x => x.data.toList) h
  simpa [list_B] using this
theorem map_B_inj {xs ys : List (List UInt8)} (h : xs.map B = ys.map B) : xs = ys := List.map_inj_right (fun a b => B_inj) |>.1 h
/-- A list that stands in a block by itself. -/
theorem LRd.alloc (w : World) (xs : List Value) (t : TypeId) : LRd (w.alloc (.cells xs.toArray t)) w.heap.size (w.heap.size + 1) (some ⟨w.heap.size, 0, none⟩) xs := fun _ =>
  ⟨w.heap.size, 0, rfl, Nat.le_refl _, by omega, fun j u hj => by
    have hlt : j < xs.length := (List.getElem?_eq_some_iff.1 hj).1
    rw [cell_of_row _ _ _ _ _ _ (heap_alloc_new w (.cells xs.toArray t))]
    simpa using hj⟩
end
end Go.Proofs.YtmknbakfjhjfmaaGreatDoor.fil
