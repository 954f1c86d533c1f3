/- Files: words on memory: a block that is known whole; what has turned; a file system's blocks. -/
import Derived.Test.YtlbhegicapggeaaGreatFilPure
import Derived.Test.YtlbhegicapggeaaGreatWords
import Derived.Maps.RangeWalk
import Derived.Sort.KeysCollected
import Derived.Lib.AppendStr
import Derived.Lib.Strings
import Derived.Deep.Fields
namespace Go.Proofs.YtlbhegicapggeaaGreat.fil
open Go.RowKit Go.Lib Go.Maps
set_option linter.unusedVariables false
set_option linter.unusedSimpArgs false
set_option linter.unnecessarySimpa false
set_option linter.unusedSectionVars false

/-- Block g is just the cells cs of type t, none of them frozen. -/
def At (w : World) (g : Nat) (t : TypeId) (cs : Array Value) : Prop := w.heap[g]? = some (.cells cs t (0, 0))

section
variable {w w' : World} {g g' : Nat} {t t' : TypeId} {cs cs' : Array Value}
theorem At.lt (h : At w g t cs) : g < w.heap.size := (Array.getElem?_eq_some_iff.1 h).1
theorem At.cell (h : At w g t cs) (i : Nat) : w.cell? ⟨g, i, none⟩ = cs[i]? := cell_of_row w g i cs t (0, 0) h
theorem At.frozen (h : At w g t cs) (i : Nat) : w.frozen? ⟨g, i, none⟩ = false := by unfold At at h; simp [World.frozen?, h]
theorem At.new (w : World) (t : TypeId) (cs : Array Value) : At (w.alloc (.cells cs t)) w.heap.size t cs := heap_alloc_new w _
theorem At.alloc (h : At w g t cs) (o : Obj) : At (w.alloc o) g t cs := (Below.heap_alloc w o g h.lt).trans h
theorem At.same (h : At w g t cs) (hb : w'.heap[g]? = w.heap[g]?) : At w' g t cs := hb.trans h
theorem At.set (h : At w g t cs) (i : Nat) (u : Value) : At (w.setCell ⟨g, i, none⟩ u) g t (cs.setIfInBounds i u) := by
  unfold At at h ⊢
  simp [World.setCell, Array.getElem?_modify, h]
theorem At.far (h : At w g t cs) {p : Addr} (hp : g ≠ p.block) (u : Value) : At (w.setCell p u) g t cs := (Below.heap_setCell w p u g hp).trans h
theorem At.ne (h : At w g t cs) (h' : At w g' t' cs') (hne : t ≠ t') : g ≠ g' := by
  rintro rfl
  unfold At at h h'
  rw [h] at h'
  injection h' with h'
  injection h' with _ ht
  exact hne ht
theorem At.ne_map {P : Program} {k : TypeId} {R : Value → Option (DataW Unit × List MemPlace)} {n : Nat} {D : DataW Unit} (h : At w g t cs) (h' : w.ownsMap P k R g' n D) : g ≠ g' := by
  rintro rfl
  obtain ⟨es, clock, hb, _⟩ := h'
  unfold At at h
  rw [h] at hb
  cases hb
theorem own_at {base : Nat} {e : TypeId} {size n : Nat} {v : Value} {xs : List Value} (h : w.ownsRow base e size v n xs) {b : Nat} (hb : v.ownBlock = some b) : ∃ cs, At w b e cs := by
  rcases h.2 with ⟨rfl, _⟩ | ⟨g, cap, cur, rfl, _, hh, _⟩
  · cases hb
  · have : g = b := by simpa [Value.ownBlock] using hb
    subst this
    exact ⟨_, hh⟩
theorem own_ne {base : Nat} {e : TypeId} {size n : Nat} {v : Value} {xs : List Value} (h : w.ownsRow base e size v n xs) (hg : At w g t cs) (hne : e ≠ t) : v.ownBlock ≠ some g := by
  intro hb
  obtain ⟨c, hc⟩ := own_at h hb
  exact (At.ne hc hg hne) rfl
theorem own_same {base : Nat} {e : TypeId} {size n : Nat} {v : Value} {xs : List Value} (h : w.ownsRow base e size v n xs) (hb : ∀ b, v.ownBlock = some b → w'.heap[b]? = w.heap[b]?) : w'.ownsRow base e size v n xs := by
  refine ⟨h.1, ?_⟩
  rcases h.2 with h0 | ⟨g, cap, cur, rfl, hg, hh, r⟩
  · exact .inl h0
  · exact .inr ⟨g, cap, cur, rfl, hg, (hb g rfl).trans hh, r⟩
theorem own_base {base : Nat} {e : TypeId} {size n : Nat} {v : Value} {xs : List Value} (h : w.ownsRow base e size v n xs) : w.ownsRow 0 e size v n xs := by
  refine ⟨h.1, ?_⟩
  rcases h.2 with h0 | ⟨g, cap, cur, rfl, hg, r⟩
  · exact .inl h0
  · exact .inr ⟨g, cap, cur, rfl, Nat.zero_le _, r⟩
theorem map_same {P : Program} {k : TypeId} {R : Value → Option (DataW Unit × List MemPlace)} {b n : Nat} {D : DataW Unit} (h : w.ownsMap P k R b n D) (hb : w'.heap[b]? = w.heap[b]?) : w'.ownsMap P k R b n D := by
  obtain ⟨es, clock, h1, h2⟩ := h
  exact ⟨es, clock, hb.trans h1, h2⟩
end

/-- Of what lay there nothing has turned but in blocks of F. -/
structure Turned (F : Nat → Prop) (w w' : World) : Prop where
  os : w'.os = w.os
  tape : w'.tape = w.tape
  output : w'.output = w.output
  size : w.heap.size ≤ w'.heap.size
  block : ∀ k, k < w.heap.size → ¬ F k → w'.heap[k]? = w.heap[k]?

section
variable {F F' : Nat → Prop} {a b c w w' : World}
theorem Turned.refl (F : Nat → Prop) (w : World) : Turned F w w := ⟨rfl, rfl, rfl, Nat.le_refl _, fun _ _ _ => rfl⟩
theorem Turned.trans (h : Turned F a b) (k : Turned F' b c) (hF : ∀ i, F' i → F i ∨ a.heap.size ≤ i) : Turned F a c :=
  ⟨k.os.trans h.os, k.tape.trans h.tape, k.output.trans h.output, Nat.le_trans h.size k.size, fun i hi hn =>
    (k.block i (Nat.lt_of_lt_of_le hi h.size) (fun hf => (hF i hf).elim hn (fun h2 => by omega))).trans (h.block i hi hn)⟩
theorem Turned.of_below (h : Below w.heap.size w w') (F : Nat → Prop) : Turned F w w' := ⟨h.os, h.tape, h.output, h.size, fun i hi _ => h.block i hi⟩
theorem Turned.then_below (h : Turned F a b) (k : Below b.heap.size b c) : Turned F a c := h.trans (.of_below k (fun _ => False)) (fun _ h => h.elim)
theorem Turned.mono (h : Turned F w w') (hF : ∀ i, F i → F' i) : Turned F' w w' := ⟨h.os, h.tape, h.output, h.size, fun i hi hn => h.block i hi (fun hf => hn (hF i hf))⟩
theorem Turned.below (h : Turned F w w') {n : Nat} (hn : n ≤ w.heap.size) (hF : ∀ i, F i → n ≤ i) : Below n w w' :=
  ⟨h.os, h.tape, h.output, h.size, fun i hi => h.block i (by omega) (fun hf => by have := hF i hf; omega)⟩
theorem Turned.alloc (h : Turned F a w) (o : Obj) : Turned F a (w.alloc o) := h.then_below ((Below.refl _ _).alloc (Nat.le_refl _) o)
theorem Turned.drew (h : Turned F a w) : Turned F a w.drew := ⟨h.os, h.tape, h.output, h.size, h.block⟩
theorem Turned.drewN (h : Turned F a w) (n : Nat) : Turned F a (w.drewN n) := ⟨h.os, h.tape, h.output, h.size, h.block⟩
theorem Turned.setCell (h : Turned F a w) {p : Addr} (hp : F p.block ∨ a.heap.size ≤ p.block) (u : Value) : Turned F a (w.setCell p u) :=
  ⟨h.os, h.tape, h.output, by simpa using h.size, fun i hi hn => (Below.heap_setCell w p u i (by
    rintro rfl
    rcases hp with hp | hp
    · exact hn hp
    · omega)).trans (h.block i hi hn)⟩
theorem Turned.grown (h : Turned F a w) {row : Option Nat} (hg : w.grownBy w' row) (hr : ∀ k, row = some k → F k ∨ a.heap.size ≤ k) : Turned F a w' :=
  ⟨hg.os.trans h.os, hg.tape.trans h.tape, hg.output.trans h.output, Nat.le_trans h.size hg.size, fun i hi hn => (hg.block i (Nat.lt_of_lt_of_le hi h.size) (fun e => by
    rcases hr i e.symm with h2 | h2
    · exact hn h2
    · omega)).trans (h.block i hi hn)⟩
theorem Turned.at {g : Nat} {t : TypeId} {cs : Array Value} (h : Turned F w w') (hA : At w g t cs) (hn : ¬ F g) : At w' g t cs := hA.same (h.block g hA.lt hn)
end

/-- How a pointer to a block of its own is read. -/
def ptrE : Value → Option (DataW Unit × List MemPlace)
  | .pointer none => some (.lit (.int .i64 (-1)), [])
  | .pointer (some ⟨b, 0, none⟩) => some (.lit (.int .i64 b), [])
  | _ => none
theorem ptrE_some {v : Value} {b : Nat} {ps : List MemPlace} (h : ptrE v = some (.lit (.int .i64 b), ps)) : v = .pointer (some ⟨b, 0, none⟩) := by
  unfold ptrE at h
  split at h
  · simp at h
  · simp at h; obtain ⟨h, _⟩ := h; rw [Int.ofNat.inj h]
  · cases h
theorem ptrE_none {v : Value} {ps : List MemPlace} (h : ptrE v = some (.lit (.int .i64 (-1)), ps)) : v = .pointer none := by
  unfold ptrE at h
  split at h
  · rfl
  · simp at h
  · cases h
theorem ptrE_shape {v : Value} {y : DataW Unit × List MemPlace} (h : ptrE v = some y) : ∃ o : Option Nat, v = .pointer (o.map fun b => ⟨b, 0, none⟩) := by
  unfold ptrE at h
  split at h
  · exact ⟨none, rfl⟩
  · exact ⟨some _, rfl⟩
  · cases h

/-- A file, the block in which it lies, and the slice that its bytes are. -/
structure Gf where
  f : Fl
  blk : Nat
  v : Value

/-- The map D has just the files of G, each at its name. -/
structure MapIs (D : DataW Unit) (G : List Gf) : Prop where
  keys : ∀ kl, Maps.has D kl = true ↔ ∃ g ∈ G, kl = .string g.f.name
  vals : ∀ g ∈ G, ∀ z, D.atKey (.string g.f.name) z = .lit (.int .i64 g.blk)
  size : Maps.size D = G.length
theorem MapIs.start : MapIs (.map []) [] := ⟨fun kl => by simp [Maps.has], by simp, rfl⟩
theorem keyLit (b : List UInt8) : WideAt.IsKeyLit (.string b) := by first | trivial | simp [WideAt.IsKeyLit]
theorem MapIs.miss {D : DataW Unit} {G : List Gf} (h : MapIs D G) {nm : List UInt8} (hn : ∀ g ∈ G, g.f.name ≠ nm) : Maps.has D (.string nm) = false := by
  cases hh : Maps.has D (.string nm)
  · rfl
  · obtain ⟨g, hg, e⟩ := (h.keys _).1 hh
    injection e with e
    exact absurd e.symm (hn g hg)
theorem MapIs.other {D : DataW Unit} {G : List Gf} (h : MapIs D G) (nm : List UInt8) (hD : Maps.Tidy D) {G' : List Gf} (hm : ∀ g, g ∈ G' ↔ g ∈ G ∧ g.f.name ≠ nm) (hl : G'.length + (if Maps.has D (.string nm) then 1 else 0) = G.length) : MapIs (D.del (.string nm)) G' := by
  refine ⟨fun kl => ?_, fun g hg z => ?_, ?_⟩
  · by_cases e : kl = .string nm
    · subst e
      rw [has_del_same]
      refine ⟨fun h => (by cases h), fun ⟨g, hg, e⟩ => ?_⟩
      injection e with e
      exact absurd e.symm ((hm g).1 hg).2
    · rw [has_del_other e, h.keys]
      constructor
      · rintro ⟨g, hg, rfl⟩
        exact ⟨g, (hm g).2 ⟨hg, fun e2 => e (by rw [e2])⟩, rfl⟩
      · rintro ⟨g, hg, rfl⟩
        exact ⟨g, ((hm g).1 hg).1, rfl⟩
  · obtain ⟨h1, h2⟩ := (hm g).1 hg
    rw [atKey_del_other (fun e => h2 (by injection e))]
    exact h.vals g h1 z
  · have := size_del (k := .string nm) hD
    rw [h.size] at this
    omega
theorem MapIs.put {D : DataW Unit} {G : List Gf} (h : MapIs D G) (hD : Maps.Tidy D) (g : Gf) {G' : List Gf} (hm : ∀ x, x ∈ G' ↔ x = g ∨ (x ∈ G ∧ x.f.name ≠ g.f.name)) (hl : G'.length = if Maps.has D (.string g.f.name) then G.length else G.length + 1) :
    MapIs (D.put (.string g.f.name) (.lit (.int .i64 g.blk))) G' := by
  refine ⟨fun kl => ?_, fun x hx z => ?_, ?_⟩
  · by_cases e : kl = .string g.f.name
    · subst e
      rw [has_put_same hD.isMap (keyLit _)]
      exact ⟨fun _ => ⟨g, (hm g).2 (.inl rfl), rfl⟩, fun _ => rfl⟩
    · rw [has_put_other e, h.keys]
      constructor
      · rintro ⟨x, hx, rfl⟩
        exact ⟨x, (hm x).2 (.inr ⟨hx, fun e2 => e (by rw [e2])⟩), rfl⟩
      · rintro ⟨x, hx, rfl⟩
        rcases (hm x).1 hx with rfl | hx
        · exact absurd rfl e
        · exact ⟨x, hx.1, rfl⟩
  · rcases (hm x).1 hx with rfl | ⟨h1, h2⟩
    · exact atKey_put_same hD.isMap (keyLit _) _ _
    · rw [atKey_put_other (fun e => h2 (by injection e))]
      exact h.vals x h1 z
  · rw [size_put hD, hl, h.size]
theorem MapIs.perm {D : DataW Unit} {G : List Gf} (h : MapIs D G) {n b : Nat} {w : World} (hown : w.ownsMap Tryz.prog 9 ptrE b n D) (hn : (G.map fun g => g.f.name).Nodup) : (G.map fun g => g.f.name).Perm (strKeys D) := by
  obtain ⟨es, rfl, hp, hk⟩ := hown.entries (string_keyed Tryz.underlying9)
  refine perm_strKeys hp (fun p hp' => ?_) hn (fun x => ?_)
  · have : Maps.has (DataW.map es) p.1 = true := by
      rw [has_eq, List.any_eq_true]
      exact ⟨p, hp', WideAt.sameKey_self (hk p hp')⟩
    obtain ⟨g, _, e⟩ := (h.keys _).1 this
    exact ⟨_, e⟩
  · rw [h.keys, List.mem_map]
    constructor
    · rintro ⟨g, hg, rfl⟩
      exact ⟨g, hg, rfl⟩
    · rintro ⟨g, hg, e⟩
      injection e with e
      exact ⟨g, hg, e.symm⟩

def bv (l : List UInt8) : List Value := l.map fun c => Value.int .u8 c.toNat
theorem bv_length (l : List UInt8) : (bv l).length = l.length := by simp [bv]
theorem bv_append (a b : List UInt8) : bv (a ++ b) = bv a ++ bv b := by simp [bv]
theorem bv_take (l : List UInt8) (n : Nat) : bv (l.take n) = (bv l).take n := by simp [bv]
theorem bv_cells (s : ByteArray) : strCells s = bv s.data.toList := rfl
def iv (l : List Int) : List Value := l.map (Value.int .i64)
theorem iv_length (l : List Int) : (iv l).length = l.length := by simp [iv]

structure FileAt (w : World) (F : Nat → Prop) (g : Gf) : Prop where
  blk : At w g.blk 72 #[g.v, .int .i64 g.f.plat]
  mine : F g.blk
  row : w.ownsRow 0 5 1 g.v g.f.bytes.length (bv g.f.bytes)
  rowMine : ∀ b, g.v.ownBlock = some b → F b

/-- The crash that is due. q: its count is what it should be (else it is turned already by the stroke that crashes). -/
def DueAt (q : Bool) (w : World) (F : Nat → Prop) (p : Option Addr) : Option (Nat × List Int) → Prop
  | none => p = none
  | some (n, ks) => ∃ b v z, p = some ⟨b, 0, none⟩ ∧ At w b 88 #[.int .i64 z, v] ∧ F b ∧ w.ownsRow 0 3 1 v ks.length (iv ks) ∧ (∀ x, v.ownBlock = some x → F x) ∧ (q = true → z = (n : Int))

/-- A file system's blocks, all of them blocks of F. -/
structure Fz q (w : World) (fb mb : Nat) (D : DataW Unit) (G : List Gf) (dp : Option Addr) (s : St) (F : Nat → Prop) : Prop where
  ok : Ok s
  head : At w fb 50 #[.int .i64 s.cap, .map (some mb), .bool s.off, .int .i64 s.starts, .pointer dp]
  map : w.ownsMap Tryz.prog 9 ptrE mb G.length D
  isMap : MapIs D G
  files : s.files = G.map (·.f)
  each : ∀ g ∈ G, FileAt w F g
  apart : G.Pairwise fun a b => a.blk ≠ b.blk ∧ ∀ x, a.v.ownBlock = some x → b.v.ownBlock ≠ some x
  due : DueAt q w F dp s.due
  mineF : F fb
  mineM : F mb
  lt : ∀ b, F b → b < w.heap.size
abbrev Fs := Fz true
def IsFz (q : Bool) (w : World) (fb : Nat) (s : St) (F : Nat → Prop) : Prop := ∃ mb D G dp, Fz q w fb mb D G dp s F
abbrev IsFs := IsFz true

section
variable {q : Bool} {w w' : World} {F F' : Nat → Prop} {g : Gf} {p : Option Addr} {d : Option (Nat × List Int)} {fb mb : Nat} {D : DataW Unit} {G : List Gf} {s : St}
theorem FileAt.same (h : FileAt w F g) (hb : ∀ b, F b → w'.heap[b]? = w.heap[b]?) : FileAt w' F g :=
  ⟨h.blk.same (hb _ h.mine), h.mine, own_same h.row (fun b e => hb b (h.rowMine b e)), h.rowMine⟩
theorem FileAt.mono (h : FileAt w F g) (hF : ∀ b, F b → F' b) : FileAt w F' g := ⟨h.blk, hF _ h.mine, h.row, fun b e => hF b (h.rowMine b e)⟩
theorem FileAt.kept (h : FileAt w F g) (h1 : w'.heap[g.blk]? = w.heap[g.blk]?) (h2 : ∀ b, g.v.ownBlock = some b → w'.heap[b]? = w.heap[b]?) : FileAt w' F g :=
  ⟨h.blk.same h1, h.mine, own_same h.row h2, h.rowMine⟩
theorem DueAt.same (h : DueAt q w F p d) (hb : ∀ b, F b → w'.heap[b]? = w.heap[b]?) : DueAt q w' F p d := by
  rcases d with _ | ⟨n, ks⟩
  · exact h
  · obtain ⟨b, v, z, e, h1, h2, h3, h4, h5⟩ := h
    exact ⟨b, v, z, e, h1.same (hb b h2), h2, own_same h3 (fun x e => hb x (h4 x e)), h4, h5⟩
theorem DueAt.mono (h : DueAt q w F p d) (hF : ∀ b, F b → F' b) : DueAt q w F' p d := by
  rcases d with _ | ⟨n, ks⟩
  · exact h
  · obtain ⟨b, v, z, e, h1, h2, h3, h4, h5⟩ := h
    exact ⟨b, v, z, e, h1, hF b h2, h3, fun x e => hF x (h4 x e), h5⟩
/-- What is due stays while blocks of another type turn. -/
theorem DueAt.kept (h : DueAt q w F p d) (hb : ∀ b t cs, At w b t cs → t = 88 ∨ t = 3 → w'.heap[b]? = w.heap[b]?) : DueAt q w' F p d := by
  rcases d with _ | ⟨n, ks⟩
  · exact h
  · obtain ⟨b, v, z, e, h1, h2, h3, h4, h5⟩ := h
    refine ⟨b, v, z, e, h1.same (hb b _ _ h1 (.inl rfl)), h2, own_same h3 (fun x e => ?_), h4, h5⟩
    obtain ⟨cs, hx⟩ := own_at h3 e
    exact hb x _ _ hx (.inr rfl)
theorem Fz.same (h : Fz q w fb mb D G p s F) (hb : ∀ b, F b → w'.heap[b]? = w.heap[b]?) (hs : w.heap.size ≤ w'.heap.size) : Fz q w' fb mb D G p s F :=
  ⟨h.ok, h.head.same (hb _ h.mineF), map_same h.map (hb _ h.mineM), h.isMap, h.files, fun g hg => (h.each g hg).same hb, h.apart, h.due.same hb, h.mineF, h.mineM, fun b hF => Nat.lt_of_lt_of_le (h.lt b hF) hs⟩
theorem Fz.below (h : Fz q w fb mb D G p s F) (hB : Below w.heap.size w w') : Fz q w' fb mb D G p s F := h.same (fun b hF => hB.block b (h.lt b hF)) hB.size
theorem Fz.mono (h : Fz q w fb mb D G p s F) (hF : ∀ b, F b → F' b) (hl : ∀ b, F' b → b < w.heap.size) : Fz q w fb mb D G p s F' :=
  ⟨h.ok, h.head, h.map, h.isMap, h.files, fun g hg => (h.each g hg).mono hF, h.apart, h.due.mono hF, hF _ h.mineF, hF _ h.mineM, hl⟩
theorem IsFz.below (h : IsFz q w fb s F) (hB : Below w.heap.size w w') : IsFz q w' fb s F := by
  obtain ⟨mb, D, G, dp, h⟩ := h
  exact ⟨mb, D, G, dp, h.below hB⟩
theorem IsFz.lt (h : IsFz q w fb s F) : ∀ b, F b → b < w.heap.size := by
  obtain ⟨mb, D, G, dp, h⟩ := h
  exact h.lt
theorem IsFz.ok (h : IsFz q w fb s F) : Ok s := by
  obtain ⟨mb, D, G, dp, h⟩ := h
  exact h.ok
/-- Another system's turning leaves this one. -/
theorem IsFz.apart (h : IsFz q w fb s F) (hT : Turned F' w w') (hn : ∀ b, F b → ¬ F' b) : IsFz q w' fb s F := by
  obtain ⟨mb, D, G, dp, h⟩ := h
  exact ⟨mb, D, G, dp, h.same (fun b hF => hT.block b (h.lt b hF) (hn b hF)) hT.size⟩
end

/-- What a call that turns a file system leaves: the system as s, of blocks that it had, and new ones; all else is as it was. -/
def Wentz (q : Bool) (F : Nat → Prop) (fb : Nat) (s : St) (w w' : World) : Prop := Turned F w w' ∧ ∃ F', (∀ b, F' b → F b ∨ w.heap.size ≤ b) ∧ IsFz q w' fb s F'
abbrev Went := Wentz true
theorem Wentz.refl {q : Bool} {F : Nat → Prop} {fb : Nat} {s : St} {w : World} (h : IsFz q w fb s F) : Wentz q F fb s w w := ⟨.refl F w, F, fun _ h => .inl h, h⟩
theorem Wentz.of_below {q : Bool} {F : Nat → Prop} {fb : Nat} {s : St} {w w' : World} (h : IsFz q w fb s F) (hB : Below w.heap.size w w') : Wentz q F fb s w w' := ⟨.of_below hB F, F, fun _ h => .inl h, h.below hB⟩
end Go.Proofs.YtlbhegicapggeaaGreat.fil
