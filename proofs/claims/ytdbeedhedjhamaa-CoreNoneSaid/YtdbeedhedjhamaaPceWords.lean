/- Pieces: words on memory: what stands behind an address, in blocks of F; a table of pieces. -/
import Derived.Test.YtdbeedhedjhamaaPcePure
import Derived.Test.YtdbeedhedjhamaaPceLists
import Derived.Lib.AppendStr
import Derived.Lib.Strings
namespace Go.Proofs.Ytdbeedhedjhamaa.pce
open Go.RowKit Go.Lib
set_option linter.unusedVariables false
set_option linter.unusedSimpArgs false
set_option linter.unnecessarySimpa false
set_option linter.unusedSectionVars false

/-- Block g is just the cells cs of type t, none of them frozen. -/
def At (w : World) (g : Nat) (t : TypeId) (cs : Array Value) : Prop := w.heap[g]? = some (.cells cs t (0, 0))

section
variable {w w' : World} {g g' : Nat} {t t' : TypeId} {cs cs' : Array Value}
theorem At.lt (h : At w g t cs) : g < w.heap.size := (Array.getElem?_eq_some_iff.1 h).1
theorem At.cell (h : At w g t cs) (i : Nat) : w.cell? ⟨g, i, none⟩ = cs[i]? := cell_of_row w g i cs t (0, 0) h
theorem At.frozen (h : At w g t cs) (i : Nat) : w.frozen? ⟨g, i, none⟩ = false := by unfold At at h; simp [World.frozen?, h]
theorem At.new (w : World) (t : TypeId) (cs : Array Value) : At (w.alloc (.cells cs t)) w.heap.size t cs := heap_alloc_new w _
theorem At.alloc (h : At w g t cs) (o : Obj) : At (w.alloc o) g t cs := (Below.heap_alloc w o g h.lt).trans h
theorem At.same (h : At w g t cs) (hb : w'.heap[g]? = w.heap[g]?) : At w' g t cs := hb.trans h
theorem At.set (h : At w g t cs) (i : Nat) (u : Value) : At (w.setCell ⟨g, i, none⟩ u) g t (cs.setIfInBounds i u) := by
  unfold At at h ⊢
  simp [World.setCell, Array.getElem?_modify, h]
theorem At.far (h : At w g t cs) {p : Addr} (hp : g ≠ p.block) (u : Value) : At (w.setCell p u) g t cs := (Below.heap_setCell w p u g hp).trans h
theorem own_at {base : Nat} {e : TypeId} {size n : Nat} {v : Value} {xs : List Value} (h : w.ownsRow base e size v n xs) {b : Nat} (hb : v.ownBlock = some b) : ∃ cs, At w b e cs := by
  rcases h.2 with ⟨rfl, _⟩ | ⟨g, cap, cur, rfl, _, hh, _⟩
  · cases hb
  · have : g = b := by simpa [Value.ownBlock] using hb
    subst this
    exact ⟨_, hh⟩
theorem own_same {base : Nat} {e : TypeId} {size n : Nat} {v : Value} {xs : List Value} (h : w.ownsRow base e size v n xs) (hb : ∀ b, v.ownBlock = some b → w'.heap[b]? = w.heap[b]?) : w'.ownsRow base e size v n xs := by
  refine ⟨h.1, ?_⟩
  rcases h.2 with h0 | ⟨g, cap, cur, rfl, hg, hh, r⟩
  · exact .inl h0
  · exact .inr ⟨g, cap, cur, rfl, hg, (hb g rfl).trans hh, r⟩
theorem own_keep {base : Nat} {e : TypeId} {size n : Nat} {v : Value} {xs : List Value} (h : w.ownsRow base e size v n xs) (hB : Below w.heap.size w w') : w'.ownsRow base e size v n xs :=
  own_same h fun b hb => hB.block b (h.lt b hb).2
end

/-- Behind the address A the values vs stand, in a block of F. -/
def VRd (w : World) (F : Nat → Prop) (A : Option Addr) (vs : List Value) : Prop :=
  0 < vs.length → ∃ b off, A = some ⟨b, off, none⟩ ∧ F b ∧ b < w.heap.size ∧ ∀ j u, vs[j]? = some u → w.cell? ⟨b, off + j, none⟩ = some u

section
variable {w w' : World} {F F' : Nat → Prop} {A : Option Addr} {vs : List Value} {zs : List ByteArray}
theorem VRd.nil : VRd w F A [] := fun h => absurd h (by simp)
theorem VRd.keep (h : VRd w F A vs) (hk : ∀ b, F b → b < w.heap.size → w'.heap[b]? = w.heap[b]?) (hs : w.heap.size ≤ w'.heap.size) : VRd w' F A vs := fun hn => by
  obtain ⟨b, off, e, hF, hb, hc⟩ := h hn
  exact ⟨b, off, e, hF, by omega, fun j u hj => (World.cell?_of_block (hk b hF hb)).trans (hc j u hj)⟩
theorem VRd.mono (h : VRd w F A vs) (hF : ∀ b, F b → b < w.heap.size → F' b) : VRd w F' A vs := fun hn => by
  obtain ⟨b, off, e, h1, hb, hc⟩ := h hn
  exact ⟨b, off, e, hF b h1 hb, hb, hc⟩
theorem VRd.below (h : VRd w F A vs) (hB : Below w.heap.size w w') : VRd w' F A vs := h.keep (fun b _ hb => hB.block b hb) hB.size
theorem VRd.of_own {base : Nat} {e : TypeId} {n c : Nat} (h : w.ownsRow base e 1 (.slice A n c) n vs) : VRd w (base ≤ ·) A vs := fun hn => by
  rcases h.2 with ⟨hv, h0⟩ | ⟨g, cap, cur, hv, hg, hh, _⟩
  · have := h.1; omega
  · injection hv with hA
    subst hA
    refine ⟨g, 0, rfl, hg, At.lt hh, fun j u hj => ?_⟩
    have := h.cells (g := g) rfl j u hj
    rwa [Go.WideShapes.add_plain] at this
theorem VRd.cells (h : VRd w F A vs) {ad : Addr} (hA : A = some ad) : ∀ j u, vs[j]? = some u → w.cell? (ad.add j) = some u := fun j u hj => by
  obtain ⟨b, off, e, _, _, hc⟩ := h (by have := (List.getElem?_eq_some_iff.1 hj).1; omega)
  rw [hA] at e
  injection e with e
  subst e
  rw [Go.WideShapes.add_plain]
  exact hc j u hj
/-- As a list of texts that the contracts of stage 1 read. -/
theorem VRd.srd (h : VRd w F A (zs.map Value.string)) : SRd w w.heap.size A zs := fun hn => by
  obtain ⟨b, off, e, _, hb, hc⟩ := h (by simpa using hn)
  refine ⟨b, off, e, hb, fun j hj => hc j _ ?_⟩
  rw [List.getElem?_map, List.getElem?_eq_getElem hj]
  simp [List.getD, List.getElem?_eq_getElem hj]
theorem VRd.of_srd {n : Nat} (h : SRd w n A zs) (hn : n ≤ w.heap.size) : VRd w (· < n) A (zs.map Value.string) := fun h0 => by
  obtain ⟨b, off, e, hb, hc⟩ := h (by simpa using h0)
  refine ⟨b, off, e, hb, by omega, fun j u hj => ?_⟩
  obtain ⟨hj1, rfl⟩ := List.getElem?_eq_some_iff.1 hj
  have hj2 : j < zs.length := by simpa using hj1
  rw [hc j hj2]
  simp [List.getD, List.getElem?_eq_getElem hj2]
end

/-- The slice that a piece is. -/
def pv (p : Pc) : Value := .slice (some ⟨p.blk, p.off, none⟩) p.l.length p.l.length
structure PcAt (w : World) (F : Nat → Prop) (p : Pc) : Prop where
  mine : F p.blk
  lt : p.blk < w.heap.size
  cells : ∀ j u, (p.l.map Value.string)[j]? = some u → w.cell? ⟨p.blk, p.off + j, none⟩ = some u

/-- A list of pieces behind A, all in blocks of F. -/
structure Pcs (w : World) (F : Nat → Prop) (A : Option Addr) (k c : Nat) (ps : List Pc) : Prop where
  len : k = ps.length
  nil : A = none → c = 0
  full : Full ps
  row : VRd w F A (ps.map pv)
  each : ∀ p ∈ ps, PcAt w F p

def nlAny (L : List ByteArray) : Prop := ∀ z ∈ L, nl z = false ∧ long z = false
/-- Lines that may be a buffer's. -/
def Fine (L : List ByteArray) : Prop := L.length ≤ 2000 ∧ nlAny L

/-- A table, of the pieces ps. -/
def Tab (w : World) (F : Nat → Prop) (v : Value) (ps : List Pc) : Prop :=
  ∃ b A k c, v = .pointer (some ⟨b, 0, none⟩) ∧ F b ∧ At w b 104 #[.bool true, .slice A k c] ∧ Pcs w F A k c ps ∧ Fine (texts ps)

section
variable {w w' : World} {F F' : Nat → Prop} {A : Option Addr} {k c : Nat} {ps : List Pc} {p : Pc} {v : Value} {L M : List ByteArray}
theorem PcAt.keep (h : PcAt w F p) (hk : ∀ b, F b → b < w.heap.size → w'.heap[b]? = w.heap[b]?) (hs : w.heap.size ≤ w'.heap.size) : PcAt w' F p :=
  ⟨h.mine, by have := h.lt; omega, fun j u hj => (World.cell?_of_block (hk _ h.mine h.lt)).trans (h.cells j u hj)⟩
theorem PcAt.mono (h : PcAt w F p) (hF : ∀ b, F b → b < w.heap.size → F' b) : PcAt w F' p := ⟨hF _ h.mine h.lt, h.lt, h.cells⟩
theorem PcAt.vrd (h : PcAt w F p) : VRd w F (some ⟨p.blk, p.off, none⟩) (p.l.map Value.string) := fun _ => ⟨_, _, rfl, h.mine, h.lt, h.cells⟩
theorem Pcs.keep (h : Pcs w F A k c ps) (hk : ∀ b, F b → b < w.heap.size → w'.heap[b]? = w.heap[b]?) (hs : w.heap.size ≤ w'.heap.size) : Pcs w' F A k c ps :=
  ⟨h.len, h.nil, h.full, h.row.keep hk hs, fun p hp => (h.each p hp).keep hk hs⟩
theorem Pcs.mono (h : Pcs w F A k c ps) (hF : ∀ b, F b → b < w.heap.size → F' b) : Pcs w F' A k c ps := ⟨h.len, h.nil, h.full, h.row.mono hF, fun p hp => (h.each p hp).mono hF⟩
theorem Pcs.below (h : Pcs w F A k c ps) (hB : Below w.heap.size w w') : Pcs w' F A k c ps := h.keep (fun b _ hb => hB.block b hb) hB.size
theorem Tab.keep (h : Tab w F v ps) (hk : ∀ b, F b → b < w.heap.size → w'.heap[b]? = w.heap[b]?) (hs : w.heap.size ≤ w'.heap.size) : Tab w' F v ps := by
  obtain ⟨b, A, k, c, hv, hF, hA, hP, hL⟩ := h
  exact ⟨b, A, k, c, hv, hF, hA.same (hk b hF hA.lt), hP.keep hk hs, hL⟩
theorem Tab.mono (h : Tab w F v ps) (hF : ∀ b, F b → b < w.heap.size → F' b) : Tab w F' v ps := by
  obtain ⟨b, A, k, c, hv, h1, hA, hP, hL⟩ := h
  exact ⟨b, A, k, c, hv, hF b h1 hA.lt, hA, hP.mono hF, hL⟩
theorem Tab.below (h : Tab w F v ps) (hB : Below w.heap.size w w') : Tab w' F v ps := h.keep (fun b _ hb => hB.block b hb) hB.size
theorem Tab.fine (h : Tab w F v ps) : Fine (texts ps) := by obtain ⟨_, _, _, _, _, _, _, _, hL⟩ := h; exact hL
theorem Tab.full (h : Tab w F v ps) : Full ps := by obtain ⟨_, _, _, _, _, _, _, hP, _⟩ := h; exact hP.full
theorem Tab.len (h : Tab w F v ps) : (texts ps).length ≤ 2000 := h.fine.1

theorem Fine.nil : Fine [] := ⟨by simp, fun z hz => by cases hz⟩
theorem any_false {p : ByteArray → Bool} : L.any p = false ↔ ∀ z ∈ L, p z = false := by simp
theorem fine_chk : chk L = 0 ↔ Fine L := by
  unfold chk
  constructor
  · intro h
    split at h
    · cases h
    · rename_i h1
      split at h
      · cases h
      · rename_i h2
        have h1' : L.any nl = false := by simpa using h1
        have h2' : L.any long = false := by
          cases e : L.any long
          · rfl
          · exact absurd (.inr e) h2
        exact ⟨by omega, fun z hz => ⟨any_false.1 h1' z hz, any_false.1 h2' z hz⟩⟩
  · intro h
    have h1 : L.any nl = false := any_false.2 fun z hz => (h.2 z hz).1
    have h2 : L.any long = false := any_false.2 fun z hz => (h.2 z hz).2
    rw [h1, h2, if_neg (by simp), if_neg (by have := h.1; simp; omega)]
theorem chk_three (L : List ByteArray) : chk L = 0 ∨ chk L = 2 ∨ chk L = 3 := by
  unfold chk
  split
  · exact .inr (.inl rfl)
  · split
    · exact .inr (.inr rfl)
    · exact .inl rfl
theorem Fine.sub (h : Fine L) (hl : M.length ≤ 2000) (hs : ∀ z ∈ M, z ∈ L) : Fine M := ⟨hl, fun z hz => h.2 z (hs z hz)⟩
theorem Fine.stretch (h : Fine L) (a u : Nat) : Fine ((L.take u).drop a) :=
  h.sub (by have := h.1; rw [List.length_drop, List.length_take]; omega) (fun z hz => List.mem_of_mem_take (List.mem_of_mem_drop hz))
theorem Fine.spl (h : Fine L) (k : Fine M) (a d : Nat) (hl : (spl L a d M).length ≤ 2000) : Fine (pce.spl L a d M) := ⟨hl, fun z hz => by
  unfold pce.spl at hz
  rw [List.mem_append, List.mem_append] at hz
  rcases hz with (hz | hz) | hz
  · exact h.2 z (List.mem_of_mem_take hz)
  · exact k.2 z hz
  · exact h.2 z (List.mem_of_mem_drop hz)⟩
theorem Fine.size (h : Fine L) : ∀ z ∈ L, z.size ≤ 1000 := fun z hz => by
  have := (h.2 z hz).2
  unfold long at this
  simpa using this
end
theorem pv_one (ps : List Pc) : ∀ u ∈ ps.map pv, u.oneCell' = true := by
  intro u hu; obtain ⟨s, _, rfl⟩ := List.mem_map.1 hu; rfl
theorem info22 : (Try.prog.info? 22).map (fun i => (i.zero, i.size, i.bytes)) = some (some (.slice none 0 0), 1, 24) := by kernel_rfl
theorem own_form' {w : World} {base n : Nat} {e : TypeId} {v : Value} {xs : List Value} (h : w.ownsRow base e 1 v n xs) : ∃ A c, v = .slice A n c ∧ (A = none → c = 0) ∧ n ≤ c := by
  rcases h.2 with ⟨hv, h0⟩ | ⟨g, cap, _, hv, _, _, h1, _⟩
  · exact ⟨none, 0, by rw [hv, h0], fun _ => rfl, by omega⟩
  · exact ⟨some ⟨g, 0, none⟩, cap, hv, (fun h => (by cases h)), h1⟩
end Go.Proofs.Ytdbeedhedjhamaa.pce
