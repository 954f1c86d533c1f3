/- Files: what a file system's blocks are behind a step that turns them. -/
import Derived.Test.YtlbhegicapggeaaGreatFilRoom
namespace Go.Proofs.YtlbhegicapggeaaGreat.fil
open Go.RowKit Go.Lib Go.Maps Go.WideMaps
set_option linter.unusedVariables false
set_option linter.unusedSimpArgs false
set_option linter.unnecessarySimpa false
set_option linter.unusedSectionVars false

theorem map_tight {w : World} {b n : Nat} {D : DataW Unit} (h : w.ownsMap Tryz.prog 9 ptrE b n D) : w.ownsMap Tryz.prog 9 ptrE b (Maps.size D) D := by
  obtain ⟨es, clock, hb, hF, _, rfl⟩ := h
  refine ⟨es, clock, hb, hF, ?_, rfl⟩
  simp [Maps.size, length_sorted]
theorem map_size {w : World} {b n m : Nat} {D : DataW Unit} (h : w.ownsMap Tryz.prog 9 ptrE b n D) (hm : Maps.size D = m) : w.ownsMap Tryz.prog 9 ptrE b m D := hm ▸ map_tight h

/-- The blocks that there were, and those that are new. -/
def Plus (F : Nat → Prop) (w w' : World) (b : Nat) : Prop := F b ∨ (w.heap.size ≤ b ∧ b < w'.heap.size)
theorem Plus.old {F : Nat → Prop} {w w' : World} {b : Nat} (h : F b) : Plus F w w' b := .inl h

section
variable {q q' : Bool} {w w' : World} {F F' : Nat → Prop} {fb mb : Nat} {D : DataW Unit} {G : List Gf} {dp dp' : Option Addr} {s s' : St}

theorem Plus.lt (h : Fz q w fb mb D G dp s F) (hs : w.heap.size ≤ w'.heap.size) : ∀ b, Plus F w w' b → b < w'.heap.size := fun b hb => hb.elim (fun hf => Nat.lt_of_lt_of_le (h.lt b hf) hs) (fun hb => hb.2)

theorem Fz.neBlk (h : Fz q w fb mb D G dp s F) {g : Gf} (hg : g ∈ G) : g.blk ≠ fb := (h.each g hg).blk.ne h.head (by decide)
theorem Fz.neMap (h : Fz q w fb mb D G dp s F) : fb ≠ mb := h.head.ne_map h.map
theorem Fz.neBlkMap (h : Fz q w fb mb D G dp s F) {g : Gf} (hg : g ∈ G) : g.blk ≠ mb := (h.each g hg).blk.ne_map h.map
theorem Fz.neRow (h : Fz q w fb mb D G dp s F) {g : Gf} (hg : g ∈ G) : g.v.ownBlock ≠ some fb := own_ne (h.each g hg).row h.head (by decide)
theorem Fz.neRowBlk (h : Fz q w fb mb D G dp s F) {g x : Gf} (hg : g ∈ G) (hx : x ∈ G) : g.v.ownBlock ≠ some x.blk := own_ne (h.each g hg).row (h.each x hx).blk (by decide)
theorem Fz.neRowMap (h : Fz q w fb mb D G dp s F) {g : Gf} (hg : g ∈ G) : g.v.ownBlock ≠ some mb := fun e => by
  obtain ⟨cs, hc⟩ := own_at (h.each g hg).row e
  exact hc.ne_map h.map rfl
theorem Fz.one (h : Fz q w fb mb D G dp s F) {g x : Gf} (hg : g ∈ G) (hx : x ∈ G) (e : g.blk = x.blk) : g = x := by
  have hp := h.apart
  clear h
  induction G with
  | nil => cases hg
  | cons y G ih =>
    obtain ⟨h1, h2⟩ := List.pairwise_cons.1 hp
    rcases List.mem_cons.1 hg with eg | hg' <;> rcases List.mem_cons.1 hx with ex | hx'
    · rw [eg, ex]
    · exact absurd (eg ▸ e) (h1 x hx').1
    · exact absurd (ex ▸ e.symm) (h1 g hg').1
    · exact ih hg' hx' h2
theorem Fz.rows (h : Fz q w fb mb D G dp s F) {g x : Gf} (hg : g ∈ G) (hx : x ∈ G) (hne : g.blk ≠ x.blk) {b : Nat} (hb : g.v.ownBlock = some b) : x.v.ownBlock ≠ some b := by
  have hp := h.apart
  clear h
  induction G with
  | nil => cases hg
  | cons y G ih =>
    obtain ⟨h1, h2⟩ := List.pairwise_cons.1 hp
    rcases List.mem_cons.1 hg with eg | hg' <;> rcases List.mem_cons.1 hx with ex | hx'
    · rw [eg, ex] at hne; exact absurd rfl hne
    · exact (h1 x hx').2 b (eg ▸ hb)
    · intro hb2
      exact (h1 g hg').2 b (ex ▸ hb2) hb
    · exact ih hg' hx' h2

/-- The head block alone has turned (and what is due). -/
theorem Fz.turnHead (h : Fz q w fb mb D G dp s F) (hF : ∀ b, F b → F' b) (hlt : ∀ b, F' b → b < w'.heap.size) (hb : ∀ b t cs, At w b t cs → t = 5 ∨ t = 72 → w'.heap[b]? = w.heap[b]?) (hm : w'.heap[mb]? = w.heap[mb]?)
    (hh : At w' fb 50 #[.int .i64 s'.cap, .map (some mb), .bool s'.off, .int .i64 s'.starts, .pointer dp']) (hf : s'.files = s.files) (hd : DueAt q' w' F' dp' s'.due) (ho : Ok s') : Fz q' w' fb mb D G dp' s' F' := by
  refine ⟨ho, hh, map_same h.map hm, h.isMap, hf.trans h.files, fun g hg => ?_, h.apart, hd, hF _ h.mineF, hF _ h.mineM, hlt⟩
  have hg' := h.each g hg
  refine ⟨hg'.blk.same (hb _ _ _ hg'.blk (.inr rfl)), hF _ hg'.mine, own_same hg'.row (fun x e => ?_), fun x e => hF x (hg'.rowMine x e)⟩
  obtain ⟨cs, hc⟩ := own_at hg'.row e
  exact hb x _ _ hc (.inl rfl)

def rep (g g' : Gf) (G : List Gf) : List Gf := G.map fun x => if x.blk = g.blk then g' else x
theorem mem_rep (h : Fz q w fb mb D G dp s F) {g g' x : Gf} (hg : g ∈ G) : x ∈ rep g g' G ↔ x = g' ∨ (x ∈ G ∧ x.blk ≠ g.blk) := by
  unfold rep
  rw [List.mem_map]
  constructor
  · rintro ⟨y, hy, rfl⟩
    by_cases e : y.blk = g.blk
    · rw [if_pos e]; exact .inl rfl
    · rw [if_neg e]; exact .inr ⟨hy, e⟩
  · rintro (rfl | ⟨hx, hne⟩)
    · exact ⟨g, hg, if_pos rfl⟩
    · exact ⟨x, hx, if_neg hne⟩
theorem rep_names (h : Fz q w fb mb D G dp s F) {g g' : Gf} (hg : g ∈ G) (hn : g'.f.name = g.f.name) : (rep g g' G).map (fun x => x.f.name) = G.map (fun x => x.f.name) := by
  unfold rep
  rw [List.map_map]
  refine List.map_congr_left fun x hx => ?_
  show (if x.blk = g.blk then g' else x).f.name = x.f.name
  by_cases e : x.blk = g.blk
  · rw [if_pos e, hn, h.one hx hg e]
  · rw [if_neg e]
theorem rep_files (h : Fz q w fb mb D G dp s F) {g g' : Gf} (hg : g ∈ G) (hn : g'.f.name = g.f.name) : (rep g g' G).map (·.f) = ins s.files g'.f := by
  have hr : Rise ((rep g g' G).map (·.f)) := by
    rw [rise_names, List.map_map]
    have e := rep_names h hg hn
    have h2 := rise_names.1 h.ok.rise
    rw [h.files, List.map_map] at h2
    exact e ▸ h2
  refine rise_ext hr (rise_ins h.ok.rise _) ?_
  refine (List.perm_ext_iff_of_nodup (hr.imp fun hab e => lt_ne hab (congrArg Fl.name e)) ((rise_ins h.ok.rise _).imp fun hab e => lt_ne hab (congrArg Fl.name e))).2 fun z => ?_
  rw [mem_ins, List.mem_map, h.files]
  constructor
  · rintro ⟨x, hx, rfl⟩
    rcases (mem_rep h hg).1 hx with rfl | ⟨hx, hne⟩
    · exact .inl rfl
    · refine .inr ⟨List.mem_map_of_mem hx, fun e => hne ?_⟩
      rw [hn] at e
      have h3 := h.apartNames
      by_cases hc : x = g
      · rw [hc]
      · exfalso
        refine hc ?_
        clear hc hne hr
        induction G with
        | nil => cases hx
        | cons y G ih =>
          obtain ⟨h1, h2⟩ := List.pairwise_cons.1 h3
          rcases List.mem_cons.1 hg with eg | hg' <;> rcases List.mem_cons.1 hx with ex | hx'
          · rw [eg, ex]
          · exact absurd (eg ▸ e.symm) (h1 x hx')
          · exact absurd (ex ▸ e) (h1 g hg')
          · exact (by
              have : ∀ {l : List Gf}, l.Pairwise (fun a b => a.f.name ≠ b.f.name) → g ∈ l → x ∈ l → x = g := by
                intro l
                induction l with
                | nil => intro _ hg; cases hg
                | cons y l ih =>
                  intro hp hg hx
                  obtain ⟨h1, h2⟩ := List.pairwise_cons.1 hp
                  rcases List.mem_cons.1 hg with eg | hg' <;> rcases List.mem_cons.1 hx with ex | hx'
                  · rw [eg, ex]
                  · exact absurd (eg ▸ e.symm) (h1 x hx')
                  · exact absurd (ex ▸ e) (h1 g hg')
                  · exact ih h2 hg' hx'
              exact this h2 hg' hx')
  · rintro (rfl | ⟨hz, hne⟩)
    · exact ⟨g', (mem_rep h hg).2 (.inl rfl), rfl⟩
    · obtain ⟨x, hx, rfl⟩ := List.mem_map.1 hz
      refine ⟨x, (mem_rep h hg).2 (.inr ⟨hx, fun e => hne ?_⟩), rfl⟩
      rw [h.one hx hg e, hn]

/-- One file alone has turned: its block, its row. -/
theorem Fz.turnFile (h : Fz q w fb mb D G dp s F) {g g' : Gf} (hg : g ∈ G) (hn : g'.f.name = g.f.name) (hbk : g'.blk = g.blk) (hs : w.heap.size ≤ w'.heap.size)
    (hb : ∀ b, b < w.heap.size → b ≠ g.blk → g.v.ownBlock ≠ some b → w'.heap[b]? = w.heap[b]?)
    (h1 : At w' g.blk 72 #[g'.v, .int .i64 g'.f.plat]) (h2 : w'.ownsRow 0 5 1 g'.v g'.f.bytes.length (bv g'.f.bytes))
    (h3 : ∀ b, g'.v.ownBlock = some b → g.v.ownBlock = some b ∨ w.heap.size ≤ b) (ho : OkF s.cap (ins s.files g'.f)) :
    Fz q w' fb mb D (rep g g' G) dp { s with files := ins s.files g'.f } (Plus F w w') := by
  have hrow : ∀ x ∈ G, x.blk ≠ g.blk → ∀ b, x.v.ownBlock = some b → w'.heap[b]? = w.heap[b]? := fun x hx hne b e =>
    hb b (h.lt b ((h.each x hx).rowMine b e)) (fun e2 => h.neRowBlk hx hg (by rw [e, e2])) (fun e2 => h.rows hg hx (Ne.symm hne) e2 e)
  refine ⟨h.ok.set ho _ _ _ h.ok.due, h.head.same (hb fb h.head.lt (fun e => h.neBlk hg e.symm) (h.neRow hg)), ?_, ?_, (rep_files h hg hn).symm, ?_, ?_, ?_, .inl h.mineF, .inl h.mineM, Plus.lt h hs⟩
  · unfold rep; rw [List.length_map]
    exact map_same h.map (hb mb (h.lt _ h.mineM) (fun e => h.neBlkMap hg e.symm) (h.neRowMap hg))
  · refine ⟨fun kl => ?_, fun x hx z => ?_, by unfold rep; rw [List.length_map]; exact h.isMap.size⟩
    · rw [h.isMap.keys]
      constructor
      · rintro ⟨x, hx, rfl⟩
        by_cases e : x.blk = g.blk
        · exact ⟨g', (mem_rep h hg).2 (.inl rfl), by rw [hn, h.one hx hg e]⟩
        · exact ⟨x, (mem_rep h hg).2 (.inr ⟨hx, e⟩), rfl⟩
      · rintro ⟨x, hx, rfl⟩
        rcases (mem_rep h hg).1 hx with rfl | ⟨hx, _⟩
        · exact ⟨g, hg, by rw [hn]⟩
        · exact ⟨x, hx, rfl⟩
    · rcases (mem_rep h hg).1 hx with rfl | ⟨hx, _⟩
      · rw [hn, hbk]; exact h.isMap.vals g hg z
      · exact h.isMap.vals x hx z
  · intro x hx
    rcases (mem_rep h hg).1 hx with rfl | ⟨hx, hne⟩
    · refine ⟨by rw [hbk]; exact h1, by rw [hbk]; exact .inl (h.each g hg).mine, h2, fun b e => ?_⟩
      rcases h3 b e with h4 | h4
      · exact .inl ((h.each g hg).rowMine b h4)
      · exact .inr ⟨h4, (h2.lt b e).2⟩
    · have hx' := h.each x hx
      exact ⟨hx'.blk.same (hb _ hx'.blk.lt hne (h.neRowBlk hg hx)), .inl hx'.mine, own_same hx'.row (hrow x hx hne), fun b e => .inl (hx'.rowMine b e)⟩
  · have hp := h.apart
    refine List.pairwise_map.2 (hp.imp_of_mem fun {x y} hx hy hxy => ?_)
    by_cases ex : x.blk = g.blk <;> by_cases ey : y.blk = g.blk
    · exact absurd (ex.trans ey.symm) hxy.1
    · rw [if_pos ex, if_neg ey]
      refine ⟨by rw [hbk]; exact Ne.symm ey, fun b e e2 => ?_⟩
      rcases h3 b e with h4 | h4
      · exact h.rows hg hy (Ne.symm ey) h4 e2
      · have := h.lt b ((h.each y hy).rowMine b e2); omega
    · rw [if_neg ex, if_pos ey]
      refine ⟨by rw [hbk]; exact ex, fun b e e2 => ?_⟩
      rcases h3 b e2 with h4 | h4
      · exact h.rows hg hx (Ne.symm ex) h4 e
      · have := h.lt b ((h.each x hx).rowMine b e); omega
    · rw [if_neg ex, if_neg ey]; exact hxy
  · refine (h.due.kept (w' := w') fun b t cs hA ht => hb b hA.lt (fun e => ?_) (fun e => ?_)).mono fun b hF => .inl hF
    · subst e
      exact (hA.ne (h.each g hg).blk (by rcases ht with rfl | rfl <;> decide)) rfl
    · exact own_ne (h.each g hg).row hA (by rcases ht with rfl | rfl <;> decide) e

/-- The map has turned, and which files there are. -/
theorem Fz.turnMap (h : Fz q w fb mb D G dp s F) {D' : DataW Unit} {G' : List Gf} {n : Nat} (hs : w.heap.size ≤ w'.heap.size) (hb : ∀ b, b < w.heap.size → b ≠ mb → w'.heap[b]? = w.heap[b]?)
    (hm : w'.ownsMap Tryz.prog 9 ptrE mb n D') (hM : MapIs D' G') (he : ∀ g ∈ G', FileAt w' (Plus F w w') g)
    (ha : G'.Pairwise fun a b => a.blk ≠ b.blk ∧ ∀ x, a.v.ownBlock = some x → b.v.ownBlock ≠ some x) {l : List Fl} (hl : l = G'.map (·.f)) (ho : OkF s.cap l) :
    Fz q w' fb mb D' G' dp { s with files := l } (Plus F w w') :=
  ⟨h.ok.set ho _ _ _ h.ok.due, h.head.same (hb fb h.head.lt h.neMap), map_size hm hM.size, hM, hl, he, ha,
    (h.due.kept (w' := w') fun b t cs hA _ => hb b hA.lt (hA.ne_map h.map)).mono fun b hF => .inl hF, .inl h.mineF, .inl h.mineM, Plus.lt h hs⟩
/-- A file stays while the map alone turns. -/
theorem Fz.stays (h : Fz q w fb mb D G dp s F) (hb : ∀ b, b < w.heap.size → b ≠ mb → w'.heap[b]? = w.heap[b]?) {g : Gf} (hg : g ∈ G) : FileAt w' (Plus F w w') g :=
  ((h.each g hg).kept (hb _ (h.each g hg).blk.lt (h.neBlkMap hg)) (fun b e => hb b (h.lt b ((h.each g hg).rowMine b e)) (fun e2 => h.neRowMap hg (by rw [e, e2])))).mono fun b hF => .inl hF
/-- Without the file of a name. -/
theorem Fz.without (h : Fz q w fb mb D G dp s F) (nm : List UInt8) (hs : w.heap.size ≤ w'.heap.size) (hb : ∀ b, b < w.heap.size → b ≠ mb → w'.heap[b]? = w.heap[b]?) {n : Nat}
    (hm : w'.ownsMap Tryz.prog 9 ptrE mb n (D.del (.string nm))) : Fz q w' fb mb (D.del (.string nm)) (G.filter fun g => !(g.f.name == nm)) dp { s with files := del s.files nm } (Plus F w w') := by
  have hl : del s.files nm = (G.filter fun g => !(g.f.name == nm)).map (·.f) := by
    unfold del
    rw [h.files, List.filter_map]
    rfl
  refine h.turnMap hs hb hm (h.isMap.other nm (h.map.tidy (string_keyed Tryz.underlying9)) (fun g => by simp) ?_) (fun g hg => h.stays hb (List.mem_filter.1 hg).1) (h.apart.filter _) hl (okf_del h.ok.f nm)
  have e : (G.filter fun g => !(g.f.name == nm)).length = (del s.files nm).length := by rw [hl, List.length_map]
  rw [e]
  rcases hf : find s.files nm with _ | x
  · rw [del_none hf, h.files, List.length_map, h.isMap.miss (fun g hg e => find_none.1 hf g.f (by rw [h.files]; exact List.mem_map_of_mem hg) e)]
    simp
  · have h1 := length_del h.ok.rise hf
    rw [h.files, List.length_map] at h1
    obtain ⟨g, hg, rfl, he⟩ := h.has hf
    rw [(h.isMap.keys _).2 ⟨g, hg, by rw [he]⟩]
    simp
    rw [← h.files] at h1
    omega
def insG (G : List Gf) (g : Gf) : List Gf := (G.filter fun x => decide (x.f.name < g.f.name)) ++ g :: G.filter fun x => decide (g.f.name < x.f.name)
theorem insG_files (G : List Gf) (g : Gf) : (insG G g).map (·.f) = ins (G.map (·.f)) g.f := by
  unfold insG ins
  rw [List.map_append, List.map_cons, List.filter_map, List.filter_map]
  rfl
theorem mem_insG {G : List Gf} {g x : Gf} (hx : x ∈ insG G g) : x = g ∨ (x ∈ G ∧ x.f.name ≠ g.f.name) := by
  unfold insG at hx
  rcases List.mem_append.1 hx with hx | hx
  · obtain ⟨h1, h2⟩ := List.mem_filter.1 hx
    exact .inr ⟨h1, lt_ne (by simpa using h2)⟩
  · rcases List.mem_cons.1 hx with rfl | hx
    · exact .inl rfl
    · obtain ⟨h1, h2⟩ := List.mem_filter.1 hx
      exact .inr ⟨h1, Ne.symm (lt_ne (by simpa using h2))⟩
theorem insG_mem {G : List Gf} {g x : Gf} (hx : x = g ∨ (x ∈ G ∧ x.f.name ≠ g.f.name)) : x ∈ insG G g := by
  unfold insG
  rcases hx with rfl | ⟨h1, h2⟩
  · exact List.mem_append.2 (.inr (List.mem_cons.2 (.inl rfl)))
  · by_cases h : x.f.name < g.f.name
    · exact List.mem_append.2 (.inl (List.mem_filter.2 ⟨h1, by simpa using h⟩))
    · refine List.mem_append.2 (.inr (List.mem_cons.2 (.inr (List.mem_filter.2 ⟨h1, ?_⟩))))
      by_cases h3 : g.f.name < x.f.name
      · simpa using h3
      · exact absurd (lt_tri _ _ h h3) h2
/-- With a file more, or another one of its name: a file of a block of its own. -/
theorem Fz.withFile (h : Fz q w fb mb D G dp s F) (g : Gf) (hs : w.heap.size ≤ w'.heap.size) (hb : ∀ b, b < w.heap.size → b ≠ mb → w'.heap[b]? = w.heap[b]?) {n : Nat}
    (hm : w'.ownsMap Tryz.prog 9 ptrE mb n (D.put (.string g.f.name) (.lit (.int .i64 g.blk)))) (hg : FileAt w' (Plus F w w') g)
    (hne : ∀ x ∈ G, x.f.name ≠ g.f.name → g.blk ≠ x.blk ∧ ∀ b, g.v.ownBlock = some b → x.v.ownBlock ≠ some b) (ho : OkF s.cap (ins s.files g.f)) :
    Fz q w' fb mb (D.put (.string g.f.name) (.lit (.int .i64 g.blk))) (insG G g) dp { s with files := ins s.files g.f } (Plus F w w') := by
  have hl : ins s.files g.f = (insG G g).map (·.f) := by rw [insG_files, h.files]
  refine h.turnMap hs hb hm (h.isMap.put (h.map.tidy (string_keyed Tryz.underlying9)) g (fun x => ⟨mem_insG, insG_mem⟩) ?_) (fun x hx => ?_) ?_ hl ho
  · have e : (insG G g).length = (ins s.files g.f).length := by rw [hl, List.length_map]
    rw [e, length_ins]
    rcases hf : find s.files g.f.name with _ | x
    · rw [del_none hf, h.files, List.length_map, h.isMap.miss (fun y hy e => find_none.1 hf y.f (by rw [h.files]; exact List.mem_map_of_mem hy) e)]
      simp
      omega
    · have h1 := length_del h.ok.rise hf
      obtain ⟨y, hy, rfl, he⟩ := h.has hf
      rw [(h.isMap.keys _).2 ⟨y, hy, by rw [he]⟩]
      simp
      have h2 : s.files.length = G.length := by rw [h.files, List.length_map]
      omega
  · rcases mem_insG hx with rfl | ⟨hx, _⟩
    · exact hg
    · exact h.stays hb hx
  · unfold insG
    have hp := h.apart
    refine List.pairwise_append.2 ⟨hp.filter _, List.pairwise_cons.2 ⟨fun x hx => ?_, hp.filter _⟩, fun x hx y hy => ?_⟩
    · obtain ⟨h1, h2⟩ := List.mem_filter.1 hx
      exact hne x h1 (Ne.symm (lt_ne (by simpa using h2)))
    · obtain ⟨h1, h2⟩ := List.mem_filter.1 hx
      have hxg : x.f.name < g.f.name := by simpa using h2
      rcases List.mem_cons.1 hy with rfl | hy
      · obtain ⟨h3, h4⟩ := hne x h1 (lt_ne hxg)
        exact ⟨Ne.symm h3, fun b e e2 => h4 b e2 e⟩
      · obtain ⟨h3, h4⟩ := List.mem_filter.1 hy
        have hgy : g.f.name < y.f.name := by simpa using h4
        have hxy : x.f.name ≠ y.f.name := lt_ne (lt_tr hxg hgy)
        have hbk : x.blk ≠ y.blk := fun e => hxy (by rw [h.one h1 h3 e])
        exact ⟨hbk, fun b e => h.rows h1 h3 hbk e⟩
end
end Go.Proofs.YtlbhegicapggeaaGreat.fil
