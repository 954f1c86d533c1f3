/- Files: the document's own system: one file less; a file's cells turned where they lie. -/
import Derived.Test.YtlbhegicapggeaaGreatFilRefTurn
namespace Go.Proofs.YtlbhegicapggeaaGreat.fil
open Go.RowKit Go.Lib Go.Maps Go.WideMaps
set_option linter.unusedVariables false
set_option linter.unusedSimpArgs false
set_option linter.unnecessarySimpa false
set_option linter.unusedSectionVars false

section
variable {q : Bool} {w w' : World} {rb : Nat} {s s' : St} {v kv : Value} {z : Int} {fl : Bool} {F F' : Nat → Prop}
theorem ok_files {s : St} (h : Ok s) {l : List Fl} (hl : OkF s.cap l) : Ok { s with files := l } := h.set hl s.off s.starts s.due h.due
theorem RWent.after {w1 : World} (h : RWent F rb s w1 w') (hB : Below w.heap.size w w1) : RWent F rb s w w' := by
  obtain ⟨hT, F', h1, h2⟩ := h
  have hs := hB.size
  refine ⟨(Turned.of_below hB F).trans hT (fun _ h => .inl h), F', fun b hb => (h1 b hb).imp id (fun h => by omega), h2⟩
/-- A row of files with one cell turned. -/
theorem own_put {l : List Fl} {g off m c : Nat} (hr : w.ownsRow 0 77 3 (.slice (some ⟨g, off, none⟩) m c) l.length (fv l)) (h0 : Hid (off = 0)) {i j : Nat} {x y : Fl} {u : Value} (hx : l[i]? = some x) (hj : j < 3) (hu : fcells y = (fcells x).set j u) :
    (w.setCell ⟨g, off + i * 3 + j, none⟩ u).ownsRow 0 77 3 (.slice (some ⟨g, off, none⟩) m c) (l.set i y).length (fv (l.set i y)) := by
  have e0 : off = 0 := h0.out
  subst e0
  have := own_set hr (g := g) rfl (0 + i * 3 + j) u
  rw [Nat.zero_add] at this ⊢
  rw [fv_set l i j x y u hx hj hu] at this
  rw [List.length_set]
  exact this
/-- The system, its row turned where it lies. -/
theorem RFz.rows (h : RFz true w rb s v kv z fl F) {w' : World} (hT : Turned (fun b => v.ownBlock = some b) w w') {l' : List Fl} (hr : w'.ownsRow 0 77 3 v l'.length (fv l')) (hok : Ok { s with files := l' }) :
    RFz true w' rb { s with files := l' } v kv z fl F := by
  refine ⟨hok, h.head.same (hT.block rb h.head.lt (fun e => own_ne h.row h.head (by decide) e)), hr, h.rowF, fun _ => ?_, h.mine, fun b hb => Nat.lt_of_lt_of_le (h.lt b hb) hT.size⟩
  refine (h.due rfl).kept (fun b cs hb => hT.block b hb.lt (fun e => own_ne h.row hb (by decide) e)) (fun b hb => hb)
theorem RFz.went (h : RFz true w rb s v kv z fl F) {w' : World} (hT : Turned (fun b => v.ownBlock = some b) w w') {l' : List Fl} (hr : w'.ownsRow 0 77 3 v l'.length (fv l')) (hok : Ok { s with files := l' }) :
    RWent F rb { s with files := l' } w w' :=
  ⟨hT.mono (fun b hb => h.rowF b hb), F, fun b hb => .inl hb, v, kv, z, fl, h.rows hT hr hok⟩

theorem tail_at (g off c m j : Nat) (hm : c ≠ m) : ((tailF ⟨g, off, none⟩ c m).add j) = ⟨g, off + (m * 3 + j), none⟩ := by
  unfold tailF
  rw [if_neg hm]
  rw [Go.WideShapes.add_plain, Go.WideShapes.add_plain, Nat.add_assoc]
set_option maxHeartbeats 2000000 in
set_option maxRecDepth 100000 in
theorem refWithout_is (i : Nat) (x : Fl) (w : World) (hx : s.files[i]? = some x) (h : RFz true w rb s v kv z fl F) :
    Calls Tryz.prog 63 #[.pointer (some ⟨rb, 0, none⟩), .int .i64 i] w fun e w' => e = .returned (.tuple #[]) ∧ RWent F rb { s with files := del s.files x.name } w w' := by
  have HH := Lib.hid h
  have hfew := h.ok.few
  have hrb : rb < w.heap.size := h.head.lt
  have c4 := h.cells.2.2.2.2.1
  have f4 := h.frozen 4
  obtain ⟨i0, hi0, hz0, hz1, hz2⟩ := info_parts infoFile
  have hml : (1000000 : Nat) ≤ maxLen := by unfold maxLen; omega
  have hi := (List.getElem?_eq_some_iff.1 hx).1
  obtain ⟨g, off, cc, rfl, h0, hlc, hcm, hgl, hcell, _⟩ := own_cells h.row (by omega)
  have hc9 : cc ≤ 9223372036854775807 := by unfold maxLen at hcm; omega
  have hokd : Hid (Ok { s with files := del s.files x.name }) := Lib.hid (ok_files h.ok (okf_del h.ok.f x.name))
  have hde : Hid (s.files.take i ++ s.files.drop (i + 1) = del s.files x.name) := Lib.hid (by rw [← erase_del h.ok.rise hx, List.eraseIdx_eq_take_drop_succ])
  have NEW1 : Hid (∀ W, Below w.heap.size w W → ∀ j u, (fv (s.files.take i))[j]? = some u → W.cell? ((⟨g, off, none⟩ : Addr).add j) = some u) := Lib.hid (fun W hW j u hj => by
    rw [fv_take, List.getElem?_take] at hj
    split at hj
    · rw [Go.WideShapes.add_plain, hW.cell (p := ⟨g, off + j, none⟩) hgl]
      exact hcell j u hj
    · cases hj)
  have NEW2 : Hid (∀ W, Below w.heap.size w W → ∀ j u, (fv (s.files.drop (i + 1)))[j]? = some u → W.cell? ((tailF ⟨g, off, none⟩ cc (i + 1)).add j) = some u) := Lib.hid (fun W hW j u hj => by
    have hne : cc ≠ i + 1 := fun e => by
      have : s.files.drop (i + 1) = [] := List.drop_eq_nil_of_le (by omega)
      rw [this] at hj
      simp [fv] at hj
    rw [tail_at g off cc (i + 1) j hne, hW.cell (p := ⟨g, off + ((i + 1) * 3 + j), none⟩) hgl]
    rw [fv_drop, List.getElem?_drop] at hj
    exact hcell _ u hj)
  have S1 := files_head (some ⟨g, off, none⟩) s.files.length cc i (by omega)
  have S2 := files_tail ⟨g, off, none⟩ s.files.length cc (i + 1) (s.files.length - (i + 1)) (by omega)
  rw [show ((i + 1 : Nat) : Int) = (i : Int) + 1 by omega] at S2
  have HL1 : Hid ((s.files.take i).length = i) := Lib.hid (by rw [List.length_take]; omega)
  have HL2 : Hid ((s.files.drop (i + 1)).length = s.files.length - (i + 1)) := Lib.hid (by rw [List.length_drop])
  have hwi : IntKind.i64.wrap ((i : Int) + 1) = (i : Int) + 1 := IntWalk.i64_in _ (by omega)
  have HX := Lib.hid hx
  clear h hx hcell hgl h0
  generalize hl1 : s.files.take i = l1 at *
  generalize hl2 : s.files.drop (i + 1) = l2 at *
  clear hl1 hl2
  have hm2 : s.files.length - (i + 1) ≤ 32 := by omega
  generalize hk2 : s.files.length - (i + 1) = k2 at *
  generalize hll : s.files.length = n at *
  have HLn := Lib.hid hll
  have HK2 := Lib.hid hk2
  clear hll hk2
  have HZ : Hid (∀ w5 A5 m5 c5, Below w.heap.size w w5 → w5.ownsRow w.heap.size 77 3 (.slice A5 m5 c5) (i + k2) (fv l1 ++ fv l2) → RWent F rb { s with files := del s.files x.name } w (w5.setCell ⟨rb, 4, none⟩ (.slice A5 m5 c5))) := Lib.hid (fun w5 A5 m5 c5 hB hr => by
    refine HH.out.newRow hB (l' := del s.files x.name) ?_ hokd.out
    rw [← hde.out, List.length_append, HL1.out, HL2.out, fv_append]
    exact hr)
  have HM0 : Hid ((w.alloc (.cells #[] 77)).ownsRow w.heap.size 77 3 (.slice (some ⟨w.heap.size, 0, none⟩) 0 0) 0 []) := Lib.hid (World.ownsRow_made w #[] 0 (Nat.le_refl _) (Nat.zero_le _) rfl)
  go_enter Tryz.func63, Tryz.ntmps63
  go_wp2_with (first
    | (at_builtin; refine wpList_append_own _ rfl (.tmp 5) (.tmp 11) 51 rfl w.heap.size 77 i0 (.agg #[.string ⟨#[]⟩, .string ⟨#[]⟩, .int .i64 0]) 3 40 Tryz.underlying51 hi0 hz0 hz1 hz2 rfl (by decide) _ 0 [] rfl HM0.out ⟨g, off, none⟩ i cc (fv l1) rfl (by rw [fv_length, HL1.out]) (NEW1.out _ ((Below.refl _ w).alloc (Nat.le_refl _) _)) (fv_one' l1) (by omega) (by omega) (by simp) ?_; intro v3 w3 hown3 hgrow3 _; have hB3 : Below w.heap.size w w3 := ((Below.refl _ w).alloc (Nat.le_refl _) _).grown hgrow3 (by simp) (fun j hj => ((HM0.out).lt j hj).1); have d4 : w3.cell? ⟨rb, 4, none⟩ = some (.slice (some ⟨g, off, none⟩) n cc) := (hB3.cell (p := ⟨rb, 4, none⟩) hrb).trans c4; rw [Nat.zero_add, List.nil_append] at hown3; have hz3 := hB3.size)
    | (at_builtin; refine wpList_append_own _ rfl (.tmp 14) (.tmp 21) 51 rfl w.heap.size 77 i0 (.agg #[.string ⟨#[]⟩, .string ⟨#[]⟩, .int .i64 0]) 3 40 Tryz.underlying51 hi0 hz0 hz1 hz2 rfl (by decide) _ i (fv l1) rfl hown3 (tailF ⟨g, off, none⟩ cc (i + 1)) k2 (cc - (i + 1)) (fv l2) rfl (by rw [fv_length, HL2.out]) (NEW2.out _ hB3) (fv_one' l2) (by omega) (by omega) hz3 ?_; intro v5 w5 hown5 hgrow5 _; obtain ⟨A5, m5, c5, rfl⟩ := own_slice hown5; have hB5 : Below w.heap.size w w5 := hB3.grown hgrow5 hz3 (fun j hj => (hown3.lt j hj).1); have f5 : w5.frozen? ⟨rb, 4, none⟩ = false := (World.frozen?_of_block (hB5.block rb hrb)).trans f4; have e5 : w5.cell? ⟨rb, 4, none⟩ = some (.slice (some ⟨g, off, none⟩) n cc) := (hB5.cell (p := ⟨rb, 4, none⟩) hrb).trans c4; have hz5 := hB5.size))
  go_end0
  exact ⟨rfl, HZ.out w5 A5 m5 c5 hB5 hown5⟩
end
end Go.Proofs.YtlbhegicapggeaaGreat.fil
