/- Files: the document's own system: its files as a row of cells; what of it stays. -/
import Derived.Test.YtlbhegicapggeaaGreatFilMuch
namespace Go.Proofs.YtlbhegicapggeaaGreat.fil
open Go.RowKit Go.Lib Go.Maps Go.WideMaps
set_option linter.unusedVariables false
set_option linter.unusedSimpArgs false
set_option linter.unnecessarySimpa false
set_option linter.unusedSectionVars false

/-! ### Lists -/
theorem erase_del : ∀ {l : List Fl} {i : Nat} {x : Fl}, Rise l → l[i]? = some x → l.eraseIdx i = del l x.name
  | a :: r, 0, x, h, hx => by
    simp at hx
    subst hx
    have ha : ∀ y, y ∈ r → a.name < y.name := fun y hy => List.rel_of_pairwise_cons h hy
    simp only [List.eraseIdx_cons_zero, del, List.filter_cons, beq_self_eq_true, Bool.not_true, Bool.false_eq_true, if_false]
    symm
    exact List.filter_eq_self.2 fun y hy => by simp; exact fun e => lt_ne (ha y hy) e.symm
  | a :: r, i + 1, x, h, hx => by
    have hx' : r[i]? = some x := by simpa using hx
    have ha := List.rel_of_pairwise_cons h (List.mem_of_getElem? hx')
    have hb : (a.name == x.name) = false := by simp; exact lt_ne ha
    simp only [List.eraseIdx_cons_succ, del, List.filter_cons, hb, Bool.not_false, if_true]
    rw [erase_del (List.Pairwise.of_cons h) hx']
    rfl
theorem set_names {l : List Fl} {i : Nat} {x y : Fl} (hx : l[i]? = some x) (hn : y.name = x.name) : (l.set i y).map (·.name) = l.map (·.name) := by
  apply List.ext_getElem?
  intro j
  rw [List.getElem?_map, List.getElem?_map, List.getElem?_set]
  split
  · rename_i e
    subst e
    split
    · rw [hx]; simp [hn]
    · rename_i h; rw [List.getElem?_eq_none (by omega)]
  · rfl
theorem set_ins {l : List Fl} {i : Nat} {x y : Fl} (h : Rise l) (hx : l[i]? = some x) (hn : y.name = x.name) : l.set i y = ins l y := by
  have hi := (List.getElem?_eq_some_iff.1 hx).1
  refine rise_ext ?_ (rise_ins h y) ?_
  · rw [rise_names, set_names hx hn, ← rise_names]; exact h
  · refine List.Perm.trans ?_ (ins_perm l y).symm
    rw [hn, ← erase_del h hx, List.set_eq_take_append_cons_drop, if_pos hi, List.eraseIdx_eq_take_drop_succ]
    exact List.perm_middle
/-- The place of a file; below nought: there is none. -/
def place (l : List Fl) (nm : List UInt8) : Option Nat := l.findIdx? fun x => x.name == nm
def placeN (l : List Fl) (nm : List UInt8) : Int := match place l nm with | some i => (i : Int) | none => -1
theorem place_none {l : List Fl} {nm : List UInt8} (h : find l nm = none) : place l nm = none := by
  unfold place
  rw [List.findIdx?_eq_none_iff]
  intro x hx
  simpa using find_none.1 h x hx
theorem place_some : ∀ {l : List Fl} {nm : List UInt8} {x : Fl}, find l nm = some x → ∃ i, place l nm = some i ∧ l[i]? = some x
  | a :: r, nm, x, h => by
    unfold find at h
    rw [List.find?_cons] at h
    unfold place
    rw [List.findIdx?_cons]
    split at h
    · rename_i e
      rw [e]
      exact ⟨0, rfl, by simpa using h⟩
    · rename_i e
      rw [e]
      obtain ⟨i, h1, h2⟩ := place_some (l := r) h
      refine ⟨i + 1, ?_, by simpa using h2⟩
      unfold place at h1
      simp [h1]

/-! ### Cells -/
def fcells (x : Fl) : List Value := [.string (B x.name), .string (B x.bytes), .int .i64 x.plat]
def fv (l : List Fl) : List Value := l.flatMap fcells
theorem fv_length (l : List Fl) : (fv l).length = l.length * 3 := by
  induction l with
  | nil => rfl
  | cons d ds ih => simp only [fv, List.flatMap_cons, List.length_append] at ih ⊢; rw [ih, List.length_cons]; simp [fcells]; omega
theorem fv_append (a b : List Fl) : fv (a ++ b) = fv a ++ fv b := by simp [fv]
theorem fv_one (x : Fl) : fv [x] = fcells x := by simp [fv]
theorem fv_get : ∀ (l : List Fl) (i j : Nat) (d : Fl), l[i]? = some d → j < 3 → (fv l)[i * 3 + j]? = (fcells d)[j]?
  | e :: ds, 0, j, d, h, hj => by
    simp at h; subst h
    simp only [fv, List.flatMap_cons]
    rw [List.getElem?_append_left (by simp [fcells]; omega)]
    congr 1; omega
  | e :: ds, i + 1, j, d, h, hj => by
    have ih := fv_get ds i j d (by simpa using h) hj
    simp only [fv, List.flatMap_cons] at ih ⊢
    rw [List.getElem?_append_right (by simp [fcells]; omega)]
    rw [← ih]
    congr 1
    simp [fcells]; omega
theorem fv_set : ∀ (l : List Fl) (i j : Nat) (x y : Fl) (u : Value), l[i]? = some x → j < 3 → fcells y = (fcells x).set j u → (fv l).set (i * 3 + j) u = fv (l.set i y)
  | e :: ds, 0, j, x, y, u, h, hj, hu => by
    simp at h; subst h
    simp only [fv, List.flatMap_cons, List.set_cons_zero]
    rw [List.set_append_left _ _ (by simp [fcells]; omega), hu]
    simp
  | e :: ds, i + 1, j, x, y, u, h, hj, hu => by
    have ih := fv_set ds i j x y u (by simpa using h) hj hu
    simp only [fv, List.flatMap_cons, List.set_cons_succ] at ih ⊢
    rw [List.set_append_right _ _ (by simp [fcells]; omega), ← ih]
    congr 2
    simp [fcells]; omega
theorem fv_take (l : List Fl) (k : Nat) : fv (l.take k) = (fv l).take (k * 3) := by
  induction l generalizing k with
  | nil => simp [fv]
  | cons d ds ih =>
    cases k with
    | zero => simp [fv]
    | succ k =>
      have := ih k
      simp only [fv, List.take_succ_cons, List.flatMap_cons] at this ⊢
      rw [this, show (k + 1) * 3 = (fcells d).length + k * 3 by simp [fcells]; omega, List.take_length_add_append]
theorem fv_drop (l : List Fl) (k : Nat) : fv (l.drop k) = (fv l).drop (k * 3) := by
  induction l generalizing k with
  | nil => simp [fv]
  | cons d ds ih =>
    cases k with
    | zero => simp [fv]
    | succ k =>
      have := ih k
      simp only [fv, List.drop_succ_cons, List.flatMap_cons] at this ⊢
      rw [this, show (k + 1) * 3 = (fcells d).length + k * 3 by simp [fcells]; omega, List.drop_length_add_append]
theorem fv_one' (l : List Fl) : ∀ u ∈ fv l, u.oneCell' = true := by
  intro u hu
  obtain ⟨x, _, hx⟩ := List.mem_flatMap.1 hu
  simp [fcells] at hx
  rcases hx with rfl | rfl | rfl <;> rfl

/-- One cell of a row that is owned. -/
theorem own_set {w : World} {base e size n : Nat} {v : Value} {xs : List Value} (h : w.ownsRow base e size v n xs) {g : Nat} (hg : v.ownBlock = some g) (k : Nat) (u : Value) :
    (w.setCell ⟨g, k, none⟩ u).ownsRow base e size v n (xs.set k u) := by
  refine ⟨by rw [List.length_set]; exact h.1, ?_⟩
  rcases h.2 with ⟨rfl, _⟩ | ⟨g', cap, cur, rfl, h1, h2, h3, h4, h5, h6⟩
  · simp [Value.ownBlock] at hg
  · simp [Value.ownBlock] at hg
    subst hg
    refine .inr ⟨g', cap, cur.setIfInBounds k u, rfl, h1, At.set h2 k u, h3, h4, by simpa using h5, ?_⟩
    rw [Array.toList_setIfInBounds, List.take_set, h6]
/-- Its cells, by an address whose place is a letter. -/
theorem own_cells {w : World} {base e size n : Nat} {v : Value} {xs : List Value} (h : w.ownsRow base e size v n xs) (hn : 0 < n) :
    ∃ g off c, v = .slice (some ⟨g, off, none⟩) n c ∧ Hid (off = 0) ∧ n ≤ c ∧ c ≤ maxLen ∧ g < w.heap.size ∧ (∀ j u, xs[j]? = some u → w.cell? ⟨g, off + j, none⟩ = some u) ∧ (∀ j, w.frozen? ⟨g, off + j, none⟩ = false) := by
  rcases h.2 with ⟨_, h0⟩ | ⟨g, cap, cur, rfl, h1, h2, h3, h4, h5, h6⟩
  · omega
  · refine ⟨g, 0, cap, rfl, Lib.hid rfl, h3, h4, At.lt h2, fun j u hu => ?_, fun j => At.frozen h2 _⟩
    have := h.cells (g := g) rfl j u hu
    rwa [Go.WideShapes.add_plain] at this

/-! ### The system -/
def RDue (w : World) (F : Nat → Prop) (kv : Value) (z : Int) (fl : Bool) : Option (Nat × List Int) → Prop
  | none => fl = false
  | some (n, ks) => fl = true ∧ z = (n : Int) ∧ ∃ ks', ks = ks'.take 32 ∧ ks'.length ≤ 1000000 ∧ w.ownsRow 0 3 1 kv ks'.length (iv ks') ∧ ∀ b, kv.ownBlock = some b → F b

/-- The document's system at block rb: its files are the row v. q: what is due is what it should be. -/
structure RFz (q : Bool) (w : World) (rb : Nat) (s : St) (v kv : Value) (z : Int) (fl : Bool) (F : Nat → Prop) : Prop where
  ok : Ok s
  head : At w rb 53 #[.int .i64 s.cap, .int .i64 s.starts, .bool s.off, .bool fl, v, .int .i64 z, kv]
  row : w.ownsRow 0 77 3 v s.files.length (fv s.files)
  rowF : ∀ b, v.ownBlock = some b → F b
  due : q = true → RDue w F kv z fl s.due
  mine : F rb
  lt : ∀ b, F b → b < w.heap.size
def RIs (w : World) (rb : Nat) (s : St) (F : Nat → Prop) : Prop := ∃ v kv z fl, RFz true w rb s v kv z fl F
def RWent (F : Nat → Prop) (rb : Nat) (s : St) (w w' : World) : Prop := Turned F w w' ∧ ∃ F', (∀ b, F' b → F b ∨ w.heap.size ≤ b) ∧ RIs w' rb s F'

section
variable {q : Bool} {w w' : World} {rb : Nat} {s s' : St} {v kv : Value} {z : Int} {fl : Bool} {F F' : Nat → Prop} {d : Option (Nat × List Int)}
theorem RDue.same (h : RDue w F kv z fl d) (hb : ∀ b, F b → w'.heap[b]? = w.heap[b]?) : RDue w' F kv z fl d := by
  rcases d with _ | ⟨n, ks⟩
  · exact h
  · obtain ⟨h1, h2, ks', h3, h4, h5, h6⟩ := h
    exact ⟨h1, h2, ks', h3, h4, own_same h5 (fun b e => hb b (h6 b e)), h6⟩
theorem RFz.same (h : RFz q w rb s v kv z fl F) (hb : ∀ b, F b → w'.heap[b]? = w.heap[b]?) (hs : w.heap.size ≤ w'.heap.size) : RFz q w' rb s v kv z fl F :=
  ⟨h.ok, h.head.same (hb _ h.mine), own_same h.row (fun b e => hb b (h.rowF b e)), h.rowF, fun hq => (h.due hq).same hb, h.mine, fun b hF => Nat.lt_of_lt_of_le (h.lt b hF) hs⟩
theorem RFz.below (h : RFz q w rb s v kv z fl F) (hB : Below w.heap.size w w') : RFz q w' rb s v kv z fl F := h.same (fun b hF => hB.block b (h.lt b hF)) hB.size
theorem RIs.below (h : RIs w rb s F) (hB : Below w.heap.size w w') : RIs w' rb s F := by
  obtain ⟨v, kv, z, fl, h⟩ := h
  exact ⟨v, kv, z, fl, h.below hB⟩
theorem RIs.lt (h : RIs w rb s F) : ∀ b, F b → b < w.heap.size := by
  obtain ⟨v, kv, z, fl, h⟩ := h
  exact h.lt
theorem RIs.ok (h : RIs w rb s F) : Ok s := by
  obtain ⟨v, kv, z, fl, h⟩ := h
  exact h.ok
theorem RIs.apart (h : RIs w rb s F) (hT : Turned F' w w') (hn : ∀ b, F b → ¬ F' b) : RIs w' rb s F := by
  obtain ⟨v, kv, z, fl, h⟩ := h
  exact ⟨v, kv, z, fl, h.same (fun b hF => hT.block b (h.lt b hF) (hn b hF)) hT.size⟩
theorem RWent.refl (h : RIs w rb s F) : RWent F rb s w w := ⟨.refl F w, F, fun _ h => .inl h, h⟩
theorem RWent.of_below (h : RIs w rb s F) (hB : Below w.heap.size w w') : RWent F rb s w w' := ⟨.of_below hB F, F, fun _ h => .inl h, h.below hB⟩
/-- Its cells. -/
theorem RFz.cells (h : RFz q w rb s v kv z fl F) :
    w.cell? ⟨rb, 0, none⟩ = some (.int .i64 s.cap) ∧ w.cell? ⟨rb, 1, none⟩ = some (.int .i64 s.starts) ∧ w.cell? ⟨rb, 2, none⟩ = some (.bool s.off) ∧ w.cell? ⟨rb, 3, none⟩ = some (.bool fl) ∧
    w.cell? ⟨rb, 4, none⟩ = some v ∧ w.cell? ⟨rb, 5, none⟩ = some (.int .i64 z) ∧ w.cell? ⟨rb, 6, none⟩ = some kv :=
  ⟨h.head.cell 0, h.head.cell 1, h.head.cell 2, h.head.cell 3, h.head.cell 4, h.head.cell 5, h.head.cell 6⟩
theorem RFz.frozen (h : RFz q w rb s v kv z fl F) (i : Nat) : w.frozen? ⟨rb, i, none⟩ = false := h.head.frozen i
end
theorem RWent.trans {F F1 : Nat → Prop} {rb : Nat} {s : St} {a b c : World} (hT : Turned F a b) (h1 : ∀ x, F1 x → F x ∨ a.heap.size ≤ x) (h : RWent F1 rb s b c) : RWent F rb s a c := by
  obtain ⟨hT2, F2, k1, k2⟩ := h
  refine ⟨hT.trans hT2 h1, F2, fun x hx => ?_, k2⟩
  rcases k1 x hx with h | h
  · exact h1 x h
  · exact .inr (Nat.le_trans hT.size h)
end Go.Proofs.YtlbhegicapggeaaGreat.fil
