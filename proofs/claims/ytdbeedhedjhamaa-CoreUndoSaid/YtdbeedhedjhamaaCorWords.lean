/- Core: words on memory: what a buffer is, and what of it turns. -/
import Derived.Test.YtdbeedhedjhamaaCorPure
import Derived.Test.YtdbeedhedjhamaaCorCells
import Derived.Test.YtdbeedhedjhamaaMrkShift
namespace Go.Proofs.Ytdbeedhedjhamaa.cor
open Go.RowKit Go.Lib pce sps mrk
set_option linter.unusedVariables false
set_option linter.unusedSimpArgs false
set_option linter.unnecessarySimpa false
set_option linter.unusedSectionVars false

/-! ### Blocks that are unlike -/
section
variable {w w' : World} {g g' : Nat} {t t' : TypeId} {cs cs' : Array Value}
theorem At.ne (h : At w g t cs) (h' : At w g' t' cs') (hne : t ≠ t') : g ≠ g' := by
  rintro rfl
  unfold pce.At at h h'
  rw [h] at h'
  injection h' with h'
  injection h' with _ ht
  exact hne ht
theorem own_ne {base : Nat} {e : TypeId} {size n : Nat} {v : Value} {xs : List Value} (h : w.ownsRow base e size v n xs) (hg : At w g t cs) (hne : e ≠ t) : v.ownBlock ≠ some g := by
  intro hb
  obtain ⟨c, hc⟩ := own_at h hb
  exact (At.ne hc hg hne) rfl
end

/-! ### What has turned -/
/-- Of what lay there nothing has turned but in blocks of G. -/
structure Turned (G : Nat → Prop) (w w' : World) : Prop where
  os : w'.os = w.os
  tape : w'.tape = w.tape
  output : w'.output = w.output
  size : w.heap.size ≤ w'.heap.size
  block : ∀ k, k < w.heap.size → ¬ G k → w'.heap[k]? = w.heap[k]?
section
variable {F G G' : Nat → Prop} {a b c w w' : World}
theorem Turned.refl (G : Nat → Prop) (w : World) : Turned G w w := ⟨rfl, rfl, rfl, Nat.le_refl _, fun _ _ _ => rfl⟩
theorem Turned.trans (h : Turned G a b) (k : Turned G' b c) (hF : ∀ i, G' i → G i ∨ a.heap.size ≤ i) : Turned G a c :=
  ⟨k.os.trans h.os, k.tape.trans h.tape, k.output.trans h.output, Nat.le_trans h.size k.size, fun i hi hn =>
    (k.block i (Nat.lt_of_lt_of_le hi h.size) (fun hf => (hF i hf).elim hn (fun h2 => by omega))).trans (h.block i hi hn)⟩
theorem Turned.of_below (h : Below w.heap.size w w') (G : Nat → Prop) : Turned G w w' := ⟨h.os, h.tape, h.output, h.size, fun i hi _ => h.block i hi⟩
theorem Turned.of_only {x : Nat} (h : Only x w w') (hG : G x) : Turned G w w' := ⟨h.os, h.tape, h.output, by rw [h.size]; exact Nat.le_refl _, fun i _ hn => h.block i (fun e => hn (e ▸ hG))⟩
theorem Turned.then_below (h : Turned G a b) (k : Below b.heap.size b c) : Turned G a c := h.trans (.of_below k (fun _ => False)) (fun _ h => h.elim)
theorem Turned.then_only {x : Nat} (h : Turned G a b) (k : Only x b c) (hx : G x ∨ a.heap.size ≤ x) : Turned G a c :=
  h.trans (.of_only (G := fun i => i = x) k rfl) (fun i e => e ▸ hx)
theorem Turned.below (h : Turned G w w') {n : Nat} (hn : n ≤ w.heap.size) (hG : ∀ i, G i → n ≤ i) : Below n w w' :=
  ⟨h.os, h.tape, h.output, h.size, fun i hi => h.block i (by omega) (fun hf => by have := hG i hf; omega)⟩
theorem Turned.grown (h : Turned G a w) {row : Option Nat} (hg : w.grownBy w' row) (hr : ∀ k, row = some k → G k ∨ a.heap.size ≤ k) : Turned G a w' :=
  ⟨hg.os.trans h.os, hg.tape.trans h.tape, hg.output.trans h.output, Nat.le_trans h.size hg.size, fun i hi hn => (hg.block i (Nat.lt_of_lt_of_le hi h.size) (fun e => by
    rcases hr i e.symm with h2 | h2
    · exact hn h2
    · omega)).trans (h.block i hi hn)⟩
theorem Turned.at {g : Nat} {t : TypeId} {cs : Array Value} (h : Turned G w w') (hA : At w g t cs) (hn : ¬ G g) : At w' g t cs := hA.same (h.block g hA.lt hn)
/-- What turns: G; and then G', no other block that lay there. -/
structure Went (G G' : Nat → Prop) (w w' : World) : Prop where
  t : Turned G w w'
  g : ∀ b, G' b → G b ∨ w.heap.size ≤ b
theorem Went.refl (G : Nat → Prop) (w : World) : Went G G w w := ⟨.refl _ _, fun _ h => .inl h⟩
theorem Went.of_below (h : Below w.heap.size w w') : Went G G w w' := ⟨.of_below h _, fun _ h => .inl h⟩
theorem Went.trans {G'' : Nat → Prop} (h : Went G G' a b) (k : Went G' G'' b c) : Went G G'' a c :=
  ⟨h.t.trans k.t h.g, fun i hi => (k.g i hi).elim (h.g i) (fun h2 => .inr (Nat.le_trans h.t.size h2))⟩
theorem Went.then_below (h : Went G G' a b) (k : Below b.heap.size b c) : Went G G' a c := h.trans (.of_below k)
theorem still_went {X : World → (Nat → Prop) → Prop} (mono : ∀ w F F', X w F → (∀ b, F b → b < w.heap.size → F' b) → X w F')
    (keep : ∀ w w' F, X w F → (∀ b, F b → b < w.heap.size → w'.heap[b]? = w.heap[b]?) → w.heap.size ≤ w'.heap.size → X w' F)
    (h : X w (fun b => ¬ G b)) (hW : Went G G' w w') : X w' (fun b => ¬ G' b) := by
  have h1 := mono w _ (fun b => ¬ G b ∧ ¬ G' b) h (fun b hb hl => ⟨hb, fun hg => (hW.g b hg).elim hb (fun h2 => by omega)⟩)
  exact mono w' _ _ (keep w w' _ h1 (fun b hb hl => hW.t.block b hl hb.1) hW.t.size) (fun b hb _ => hb.2)
theorem lst_went {A : Option Addr} {n c : Nat} {zs : List ByteArray} (h : Lst w (fun b => ¬ G b) A n c zs) (hW : Went G G' w w') : Lst w' (fun b => ¬ G' b) A n c zs :=
  still_went (X := fun w F => Lst w F A n c zs) (fun _ _ _ h => h.mono) (fun _ _ _ h => h.keep) h hW
theorem tab_went {v : Value} {ps : List Pc} (h : Tab w (fun b => ¬ G b) v ps) (hW : Went G G' w w') : Tab w' (fun b => ¬ G' b) v ps :=
  still_went (X := fun w F => Tab w F v ps) (fun _ _ _ h => h.mono) (fun _ _ _ h => h.keep) h hW
theorem CtOk.mono {t : Ct} {F' : Nat → Prop} (h : CtOk w F t) (hF : ∀ b, F b → b < w.heap.size → F' b) : CtOk w F' t := ⟨h.a1, h.a2, h.d1, h.d2, h.lst.mono hF, h.size, h.few⟩
theorem ct_went {t : Ct} (h : CtOk w (fun b => ¬ G b) t) (hW : Went G G' w w') : CtOk w' (fun b => ¬ G' b) t :=
  still_went (X := fun w F => CtOk w F t) (fun _ _ _ h => CtOk.mono h) (fun _ _ _ h => h.keep) h hW
theorem cuts_went {A : Option Addr} {ts : List Ct} (h : Cuts w (fun b => ¬ G b) A ts) (hW : Went G G' w w') : Cuts w' (fun b => ¬ G' b) A ts :=
  still_went (X := fun w F => Cuts w F A ts) (fun _ _ _ h hF => ⟨h.row.mono hF, fun t ht => CtOk.mono (h.each t ht) hF⟩) (fun _ _ _ h => h.keep) h hW
/-- A block that does not turn. -/
def Lay (w : World) (G : Nat → Prop) (g : Nat) (t : TypeId) (cs : Array Value) : Prop := At w g t cs ∧ ¬ G g
theorem Lay.went {g : Nat} {t : TypeId} {cs : Array Value} (h : Lay w G g t cs) (hW : Went G G' w w') : Lay w' G' g t cs :=
  ⟨hW.t.at h.1 h.2, fun hg => (hW.g g hg).elim h.2 (fun h2 => by have := h.1.lt; omega)⟩
end

/-! ### What a buffer is -/
def moL (v : Value) (m : M) : List Value := v :: .int .i64 m.c :: arrL m.f
def coL (v : Value) (m : M) (bk gn rg : Value) (last : ByteArray) (d : Bool) : List Value := moL v m ++ [bk, gn, rg, .string last, .bool d]
def chL (v : Value) (m : M) (rg sp : Value) : List Value := moL v m ++ [rg, sp]
def viL (l : Value) (m : M) (last : ByteArray) : List Value := l :: .int .i64 m.c :: (arrL m.f ++ [.string last])
theorem moL_len (v : Value) (m : M) : (moL v m).length = 28 := by simp [moL, arrL_len]
structure Mo (w : World) (G : Nat → Prop) (v : Value) (m : M) : Prop where
  tab : ∃ ps, Tab w (fun b => ¬ G b) v ps ∧ texts ps = m.L
  c0 : 0 ≤ m.c
  c1 : m.c ≤ m.L.length
  ints : Ints m.f
/-- Registers of which the map is any. -/
def Rg (w : World) (G : Nat → Prop) (rb : Nat) : Prop := ∃ mb es ck, At w rb 72 #[.map (some mb)] ∧ ¬ G mb ∧ w.heap[mb]? = some (.map es ck)
def Bk (w : World) (G : Nat → Prop) : Option M → Value → Prop
  | none, u => u = .pointer none
  | some m, u => ∃ bb v, u = .pointer (some ⟨bb, 0, none⟩) ∧ G bb ∧ At w bb 53 (moL v m).toArray ∧ Mo w G v m
/-- The splices of a change that has begun: in a row of the buffer's own. -/
structure Sps (n : Nat) (w : World) (G : Nat → Prop) (u : Value) (ts : List Ct) : Prop where
  own : w.ownsRow n 24 3 u ts.length (flat ts)
  g : ∀ b, u.ownBlock = some b → G b
  each : ∀ t ∈ ts, CtOk w (fun b => ¬ G b) t
def Gn (n : Nat) (w : World) (G : Nat → Prop) : Option (M × List Ct) → Value → Prop
  | none, u => u = .pointer none
  | some (m, ts), u => ∃ gb v kb s, u = .pointer (some ⟨gb, 0, none⟩) ∧ G gb ∧ At w gb 69 (chL v m (.pointer (some ⟨kb, 0, none⟩)) s).toArray ∧ Mo w G v m ∧ Rg w G kb ∧ ¬ G kb ∧ Sps n w G s ts
/-- A buffer in block cb. -/
structure Is (n : Nat) (w : World) (G : Nat → Prop) (cb : Nat) (s : S) (v bk gn : Value) (rb : Nat) (last : ByteArray) : Prop where
  at_ : At w cb 57 (coL v s.m bk gn (.pointer (some ⟨rb, 0, none⟩)) last s.dirty).toArray
  gc : G cb
  gr : G rb
  mo : Mo w G v s.m
  rg : Rg w G rb
  back : Bk w G s.back bk
  begun : Gn n w G s.begun gn
structure Cr (n : Nat) (w0 : World) (cb : Nat) (s : S) (G : Nat → Prop) (w : World) : Prop where
  below : Below n w0 w
  room : n ≤ w0.heap.size
  g : ∀ b, G b → n ≤ b ∧ b < w.heap.size
  is : ∃ v bk gn rb last, Is n w G cb s v bk gn rb last
section
variable {n rb cb : Nat} {w0 w w' : World} {G G' : Nat → Prop} {v u bk gn : Value} {m : M} {o : Option M} {p : Option (M × List Ct)} {ts : List Ct} {s : S} {last : ByteArray}
theorem Mo.fine (h : Mo w G v m) : Fine m.L := by obtain ⟨ps, h1, h2⟩ := h.tab; rw [← h2]; exact h1.fine
theorem Mo.went (h : Mo w G v m) (hW : Went G G' w w') : Mo w' G' v m := ⟨by obtain ⟨ps, h1, h2⟩ := h.tab; exact ⟨ps, tab_went h1 hW, h2⟩, h.c0, h.c1, h.ints⟩
/-- Registers that lie where nothing has turned. -/
theorem Rg.went (h : Rg w G rb) (hW : Went G G' w w') (hb : w'.heap[rb]? = w.heap[rb]?) : Rg w' G' rb := by
  obtain ⟨mb, es, ck, h1, h2, h3⟩ := h
  have hl : mb < w.heap.size := (Array.getElem?_eq_some_iff.1 h3).1
  exact ⟨mb, es, ck, h1.same hb, fun hg => (hW.g mb hg).elim h2 (fun h4 => by omega), (hW.t.block mb hl h2).trans h3⟩
theorem Rg.lt (h : Rg w G rb) : rb < w.heap.size := by obtain ⟨_, _, _, h1, _, _⟩ := h; exact h1.lt
/-- What an undo brings back, where its block has not turned. -/
theorem Bk.went (h : Bk w G o u) (hW : Went G G' w w') (hb : ∀ b, u = .pointer (some ⟨b, 0, none⟩) → w'.heap[b]? = w.heap[b]? ∧ G' b) : Bk w' G' o u := by
  cases o with
  | none => exact h
  | some m =>
    obtain ⟨bb, v, rfl, h1, h2, h3⟩ := h
    exact ⟨bb, v, rfl, (hb bb rfl).2, h2.same (hb bb rfl).1, h3.went hW⟩
theorem Sps.went (h : Sps n w G u ts) (hW : Went G G' w w') (hb : ∀ b, u.ownBlock = some b → w'.heap[b]? = w.heap[b]? ∧ G' b) : Sps n w' G' u ts :=
  ⟨own_same h.own fun b hu => (hb b hu).1, fun b hu => (hb b hu).2, fun t ht => ct_went (h.each t ht) hW⟩
/-- A change that has begun, where its blocks have not turned. -/
theorem Gn.went (h : Gn n w G p u) (hW : Went G G' w w') (hb : ∀ b, u = .pointer (some ⟨b, 0, none⟩) → w'.heap[b]? = w.heap[b]? ∧ G' b)
    (ho : ∀ b, (∃ cs, At w b 24 cs) → G b → w'.heap[b]? = w.heap[b]? ∧ G' b) : Gn n w' G' p u := by
  cases p with
  | none => exact h
  | some q =>
    obtain ⟨m, ts⟩ := q
    obtain ⟨gb, v, kb, s, rfl, h1, h2, h3, h4, h5, h6⟩ := h
    refine ⟨gb, v, kb, s, rfl, (hb gb rfl).2, h2.same (hb gb rfl).1, h3.went hW, h4.went hW (hW.t.block kb h4.lt h5), fun hg => (hW.g kb hg).elim h5 (fun h7 => by have := h4.lt; omega), ?_⟩
    exact h6.went hW fun b hu => ho b (own_at h6.own hu) (h6.g b hu)
/-- Where nothing that lay there has turned, a buffer stands. -/
theorem Is.move (h : Is n w G cb s v bk gn rb last) (hB : Below w.heap.size w w') (hG : ∀ b, G b → b < w.heap.size) : Is n w' G cb s v bk gn rb last :=
  ⟨h.at_.same (hB.block cb h.at_.lt), h.gc, h.gr, h.mo.went (.of_below hB), h.rg.went (.of_below hB) (hB.block rb h.rg.lt),
    h.back.went (.of_below hB) fun b e => by
      have hg : G b := by
        have := h.back
        cases hbk : s.back with
        | none => rw [hbk] at this; subst this; cases e
        | some m => rw [hbk] at this; obtain ⟨bb, v, rfl, h1, _⟩ := this; cases e; exact h1
      exact ⟨hB.block b (hG b hg), hg⟩,
    h.begun.went (.of_below hB) (fun b e => by
      have hg : G b := by
        have := h.begun
        cases hbg : s.begun with
        | none => rw [hbg] at this; subst this; cases e
        | some q => rw [hbg] at this; obtain ⟨gb, v, kb, s, rfl, h1, _⟩ := this; cases e; exact h1
      exact ⟨hB.block b (hG b hg), hg⟩) fun b _ hg => ⟨hB.block b (hG b hg), hg⟩⟩
theorem Cr.move (h : Cr n w0 cb s G w) (hB : Below w.heap.size w w') : Cr n w0 cb s G w' := by
  obtain ⟨v, bk, gn, rb, last, hi⟩ := h.is
  have hl : n ≤ w.heap.size := Nat.le_trans h.room h.below.size
  exact ⟨h.below.trans (hB.mono hl), h.room, fun b hb => ⟨(h.g b hb).1, Nat.lt_of_lt_of_le (h.g b hb).2 hB.size⟩, v, bk, gn, rb, last, hi.move hB fun b hb => (h.g b hb).2⟩
theorem Cr.size (h : Cr n w0 cb s G w) : n ≤ w.heap.size := Nat.le_trans h.room h.below.size
end
end Go.Proofs.Ytdbeedhedjhamaa.cor
