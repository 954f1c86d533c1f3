/- Files: what a crash leaves. -/
import Derived.Test.YtmknbakfjhjfmaaGreatDoorFilDo2
import Derived.Deep.DeepCutAuto
import Derived.Deep.LoopGhost
namespace Go.Proofs.YtmknbakfjhjfmaaGreatDoor.fil
open Go.RowKit Go.Lib Go.Maps Go.WideMaps
set_option linter.unusedVariables false
set_option linter.unusedSimpArgs false
set_option linter.unnecessarySimpa false
set_option linter.unusedSectionVars false

/-- Behind the address A the values xs stand, in a block from lo on, below hi. -/
def LRd (w : World) (lo hi : Nat) (A : Option Addr) (xs : List Value) : Prop :=
  0 < xs.length → ∃ b off, A = some ⟨b, off, none⟩ ∧ lo ≤ b ∧ b < hi ∧ ∀ j u, xs[j]? = some u → w.cell? ⟨b, off + j, none⟩ = some u
theorem LRd.turned {F : Nat → Prop} {w w' : World} {lo hi : Nat} {A : Option Addr} {xs : List Value} (h : LRd w lo hi A xs) (hT : Turned F w w') (hF : ∀ b, F b → b < lo ∨ hi ≤ b) : LRd w' lo hi A xs := fun h0 => by
  obtain ⟨b, off, e, h1, h2, h3⟩ := h h0
  refine ⟨b, off, e, h1, h2, fun j u hj => ?_⟩
  have hc := h3 j u hj
  have hb := World.block_lt_of_cell? _ _ hc
  rw [World.cell?_of_block (w := w) (hT.block b hb (fun hf => by rcases hF b hf with h4 | h4 <;> omega))]
  exact hc
theorem LRd.below {w w' : World} {lo hi : Nat} {A : Option Addr} {xs : List Value} (h : LRd w lo hi A xs) (hB : Below w.heap.size w w') : LRd w' lo hi A xs := h.turned (.of_below hB (fun _ => False)) (fun _ h => h.elim)
theorem LRd.more {w : World} {lo hi lo' hi' : Nat} {A : Option Addr} {xs : List Value} (h : LRd w lo hi A xs) (h1 : lo' ≤ lo) (h2 : hi ≤ hi') : LRd w lo' hi' A xs := fun h0 => by
  obtain ⟨b, off, e, h3, h4, h5⟩ := h h0
  exact ⟨b, off, e, by omega, by omega, h5⟩
theorem LRd.of_own {w : World} {base e n c : Nat} {A : Option Addr} {xs : List Value} (h : w.ownsRow base e 1 (.slice A n c) n xs) : LRd w base w.heap.size A xs := fun h0 => by
  have hn : xs.length = n := by simpa using h.1
  rcases h.2 with ⟨_, h1⟩ | ⟨g, cap, cur, hv, hb, hh, _⟩
  · omega
  · injection hv with e1 _ _
    subst e1
    refine ⟨g, 0, rfl, hb, (Array.getElem?_eq_some_iff.1 hh).1, fun j u hj => ?_⟩
    have := h.cells (g := g) rfl j u hj
    rwa [Go.WideShapes.add_plain] at this
theorem LRd.strs {w : World} {lo hi : Nat} {A : Option Addr} {ts : List (List UInt8)} (h : LRd w lo hi A (strV ts)) (hh : hi ≤ w.heap.size) : SRd w w.heap.size A (ts.map B) := fun h0 => by
  rw [List.length_map] at h0
  obtain ⟨b, off, e, h1, h2, h3⟩ := h (by rw [strV_length]; exact h0)
  refine ⟨b, off, e, by omega, fun j hj => ?_⟩
  rw [List.length_map] at hj
  rw [h3 j (.string (B ts[j])) (by simp [strV, List.getElem?_eq_getElem hj])]
  simp [List.getD, List.getElem?_eq_getElem hj]

section
variable {q : Bool} {F : Nat → Prop} {fb mb : Nat} {D : DataW Unit} {G : List Gf} {dp : Option Addr} {s : St}

/-- Names, as a list that one may read. -/
theorem names_list (w : World) (h : Fz q w fb mb D G dp s F) :
    Calls Tryz.prog 55 #[.pointer (some ⟨fb, 0, none⟩)] w fun e w' => ∃ A c, e = .returned (.slice A s.files.length c) ∧ s.files.length ≤ c ∧ c ≤ maxLen ∧ (A = none → c = 0) ∧ LRd w' w.heap.size w'.heap.size A (strV (namesOf s.files)) ∧ Below w.heap.size w w' :=
  (names_is w h).mono fun e w' ⟨v, he, hr, hB⟩ => by
    obtain ⟨A, c, rfl, h1, h2⟩ := own_form2 hr
    refine ⟨A, c, he, h1, h2, fun hA => ?_, LRd.of_own hr, hB⟩
    subst hA
    rcases hr.2 with ⟨hv, _⟩ | ⟨g, cap, cur, hv, _⟩
    · injection hv
    · cases hv

def mid (ks : List Int) (l : List Fl) (i : Nat) : List Fl := (lose ks l).take i ++ l.drop i
theorem mid_zero (ks : List Int) (l : List Fl) : mid ks l 0 = l := rfl
theorem mid_all (ks : List Int) (l : List Fl) : mid ks l l.length = lose ks l := by
  unfold mid
  rw [List.take_of_length_le (by rw [lose_length]; exact Nat.le_refl _), List.drop_length, List.append_nil]
theorem mid_names (ks : List Int) (l : List Fl) (i : Nat) : (mid ks l i).map (·.name) = l.map (·.name) := by
  unfold mid
  rw [List.map_append, List.map_take, List.map_drop, lose_names, List.take_append_drop]
theorem rise_mid {l : List Fl} (h : Rise l) (ks : List Int) (i : Nat) : Rise (mid ks l i) := by
  rw [rise_names, mid_names, ← rise_names]; exact h
theorem ins_mid {a b : List Fl} {x x' : Fl} (h : Rise (a ++ x :: b)) (hn : x'.name = x.name) : ins (a ++ x :: b) x' = a ++ x' :: b := by
  obtain ⟨_, h2, h3⟩ := List.pairwise_append.1 h
  obtain ⟨h4, _⟩ := List.pairwise_cons.1 h2
  have e1 : a.filter (fun y => decide (y.name < x.name)) = a := List.filter_eq_self.2 (fun y hy => by simpa using h3 y hy x (List.mem_cons.2 (.inl rfl)))
  have e2 : b.filter (fun y => decide (y.name < x.name)) = [] := List.filter_eq_nil_iff.2 (fun y hy => by simpa using lt_as (h4 y hy))
  have e3 : a.filter (fun y => decide (x.name < y.name)) = [] := List.filter_eq_nil_iff.2 (fun y hy => by simpa using lt_as (h3 y hy x (List.mem_cons.2 (.inl rfl))))
  have e4 : b.filter (fun y => decide (x.name < y.name)) = b := List.filter_eq_self.2 (fun y hy => by simpa using h4 y hy)
  unfold ins
  rw [hn, List.filter_append, List.filter_append, List.filter_cons, List.filter_cons, e1, e2, e3, e4]
  simp [lt_irr]
theorem mid_split (ks : List Int) {l : List Fl} {i : Nat} {x : Fl} (hx : l[i]? = some x) : mid ks l i = (lose ks l).take i ++ x :: l.drop (i + 1) ∧ mid ks l (i + 1) = (lose ks l).take i ++ cut1 (ks.getD i 0) x :: l.drop (i + 1) := by
  have hi : i < l.length := (List.getElem?_eq_some_iff.1 hx).1
  have e : l[i] = x := (List.getElem?_eq_some_iff.1 hx).2
  constructor
  · unfold mid
    rw [List.drop_eq_getElem_cons hi, e]
  · unfold mid
    have hl := lose_get ks l i
    rw [hx] at hl
    rw [List.take_add_one, hl]
    simp
theorem mid_step (ks : List Int) {l : List Fl} (h : Rise l) {i : Nat} {x : Fl} (hx : l[i]? = some x) : ins (mid ks l i) (cut1 (ks.getD i 0) x) = mid ks l (i + 1) := by
  obtain ⟨h1, h2⟩ := mid_split ks hx
  rw [h2]
  have hr := rise_mid h ks i
  rw [h1] at hr ⊢
  exact ins_mid hr rfl
theorem okf_mid {cap : Nat} {l : List Fl} (h : OkF cap l) (ks : List Int) (i : Nat) : OkF cap (mid ks l i) := by
  have hl := okf_lose h ks
  have ht : total (mid ks l i) ≤ total l := by
    have : ∀ (i : Nat) (ks : List Int) (l : List Fl), total (mid ks l i) ≤ total l := by
      intro i
      induction i with
      | zero => intro ks l; exact Nat.le_refl _
      | succ i ih =>
        intro ks l
        cases l with
        | nil => simp [mid, lose, total]
        | cons x r =>
          have e : mid ks (x :: r) (i + 1) = cut1 (ks.headD 0) x :: mid ks.tail r i := by simp [mid, lose]
          rw [e, total_cons, total_cons]
          have := ih ks.tail r
          have h2 : (cut1 (ks.headD 0) x).bytes.length ≤ x.bytes.length := List.length_take_le' _ _
          omega
    exact this i ks l
  refine ⟨rise_mid h.rise ks i, fun y hy => ?_, fun y hy => ?_, Nat.le_trans ht h.room, ?_⟩
  · rcases List.mem_append.1 hy with hy | hy
    · exact hl.nm y (List.mem_of_mem_take hy)
    · exact h.nm y (List.mem_of_mem_drop hy)
  · rcases List.mem_append.1 hy with hy | hy
    · exact hl.plat y (List.mem_of_mem_take hy)
    · exact h.plat y (List.mem_of_mem_drop hy)
  · have e := congrArg List.length (mid_names ks l i)
    rw [List.length_map, List.length_map] at e
    rw [e]; exact h.few

/-- What the list of what is kept must be: none of the blocks that a crash writes. -/
def KeepAt (w : World) (fb : Nat) (G : List Gf) (A : Option Addr) (ks : List Int) : Prop :=
  0 < ks.length → ∃ b off, A = some ⟨b, off, none⟩ ∧ b < w.heap.size ∧ b ≠ fb ∧ (∀ g ∈ G, b ≠ g.blk) ∧ ∀ j, j < ks.length → w.cell? ⟨b, off + j, none⟩ = some (.int .i64 (ks.getD j 0))

/-- How far a crash has come. -/
structure Mid (q : Bool) (w w1 : World) (fb mb : Nat) (G : List Gf) (dp : Option Addr) (s : St) (F : Nat → Prop) (ks : List Int) (i : Nat) (wr : World) (Gi : List Gf) (Fi : Nat → Prop) (Di : DataW Unit) : Prop where
  fs : Fz q wr fb mb Di Gi dp { s with files := mid ks s.files i } Fi
  few : ∀ b, Fi b → F b ∨ w.heap.size ≤ b
  blks : ∀ g ∈ Gi, ∃ x ∈ G, g.blk = x.blk
  turned : Turned (fun b => ∃ x ∈ G, b = x.blk) w1 wr
theorem keepN_int (k : Int) {p l : Nat} (x : Fl) (hp : x.plat = p) (hl : x.bytes.length = l) : ((keepN k x : Nat) : Int) = (p : Int) + min (max k 0) ((l - p : Nat) : Int) := by
  unfold keepN; rw [hp, hl]; omega

/-- A file's block with its bytes cut off behind what is on the platter. -/
theorem Mid.step {w w1 wr : World} {ks : List Int} {i : Nat} {Gi : List Gf} {Fi : Nat → Prop} {Di : DataW Unit} (h : Mid q w w1 fb mb G dp s F ks i wr Gi Fi Di) (hw : w.heap.size ≤ w1.heap.size) (hR : OkF s.cap s.files) {x : Fl} (hx : s.files[i]? = some x) {g : Gf} (hg : g ∈ Gi) (hgx : g.f = x) {A : Option Addr} {c : Nat} (hv : g.v = .slice A x.bytes.length c)
    {w' : World} {k : Int} (hk : k = ks.getD i 0) (hT : Turned (fun b => b = g.blk) wr w') (hA : At w' g.blk 85 #[.slice A (keepN k x) c, .int .i64 (keepN k x)]) : ∃ G' F' D', Mid q w w1 fb mb G dp s F ks (i + 1) w' G' F' D' := by
  subst hk
  have E := h.fs.each g hg
  have hp : x.plat ≤ x.bytes.length := hR.plat x (List.mem_of_getElem? hx)
  have hkl := keepN_le (k := ks.getD i 0) hp
  have hrow : w'.ownsRow 0 5 1 (.slice A (keepN (ks.getD i 0) x) c) (keepN (ks.getD i 0) x) ((bv x.bytes).take (keepN (ks.getD i 0) x)) := by
    have e := E.row
    rw [hgx, hv] at e
    refine own_same (own_front e hkl) fun b e3 => hT.block b ?_ ?_
    · exact h.fs.lt b (E.rowMine b (by rw [hv, ownBlock_len A _ (keepN (ks.getD i 0) x) c c]; exact e3))
    · intro e4
      exact h.fs.neRowBlk hg hg (by rw [hv, ownBlock_len A _ (keepN (ks.getD i 0) x) c c, e3, e4])
  have hst : ins (mid ks s.files i) (cut1 (ks.getD i 0) x) = mid ks s.files (i + 1) := mid_step ks hR.rise hx
  have ho : OkF s.cap (ins (mid ks s.files i) (cut1 (ks.getD i 0) x)) := by rw [hst]; exact okf_mid hR ks (i + 1)
  have hF := h.fs.turnFile (w' := w') (g' := ⟨cut1 (ks.getD i 0) x, g.blk, .slice A (keepN (ks.getD i 0) x) c⟩) hg (by show (cut1 (ks.getD i 0) x).name = _; rw [hgx]; rfl) rfl hT.size
    (fun b hb h1 _ => hT.block b hb h1) hA (by
      show World.ownsRow _ 0 5 1 _ (x.bytes.take (keepN (ks.getD i 0) x)).length (bv (x.bytes.take (keepN (ks.getD i 0) x)))
      rw [bv_take, List.length_take, Nat.min_eq_left hkl]
      exact hrow) (fun b e => .inl (by rw [hv, ownBlock_len A _ (keepN (ks.getD i 0) x) c c]; exact e)) ho
  have e5 : St.mk s.cap (ins (mid ks s.files i) (cut1 (ks.getD i 0) x)) s.off s.starts s.due = St.mk s.cap (mid ks s.files (i + 1)) s.off s.starts s.due := by rw [hst]
  refine ⟨_, _, _, (show Fz q w' fb mb Di _ dp (St.mk s.cap (mid ks s.files (i + 1)) s.off s.starts s.due) _ from e5 ▸ hF), fun b hb => ?_, fun y hy => ?_, h.turned.trans (hT.mono (F' := fun b => ∃ x ∈ G, b = x.blk) fun b hb => ?_) (fun b hb => .inl hb)⟩
  · rcases hb with hb | hb
    · exact h.few b hb
    · have := h.turned.size; exact .inr (by omega)
  · rcases (mem_rep h.fs hg).1 hy with rfl | ⟨hy, _⟩
    · exact h.blks g hg
    · exact h.blks y hy
  · obtain ⟨x, hx, e⟩ := h.blks g hg
    exact ⟨x, hx, hb.trans e⟩

set_option maxHeartbeats 4000000 in
set_option maxRecDepth 100000 in
theorem lose_is (A : Option Addr) (c : Nat) (ks : List Int) (w : World) (hkl : ks.length ≤ 9223372036854775807) (hK : KeepAt w fb G A ks) (h : Fz q w fb mb D G dp s F) :
    Calls Tryz.prog 32 #[.pointer (some ⟨fb, 0, none⟩), .slice A ks.length c] w fun e w' => e = .returned (.tuple #[]) ∧ Went F fb (crash ks s) w w' := by
  have N := Lib.hid (names_list w h)
  have hfew := h.ok.few
  have hcap := h.ok.cap2
  have hroom := h.ok.room
  have HOF := Lib.hid h.ok.f
  have HH := Lib.hid h
  have HKK := Lib.hid hK
  clear h hK
  go_enter Tryz.func32, Tryz.ntmps32
  go_wp2_with (go_at_call 55; refine N.out.mono ?_; rintro e w1 ⟨NA, nc, rfl, hnc, hncm, _, hNL, hB⟩)
  have HN := Lib.hid hNL
  have h0 : Mid q w w1 fb mb G dp s F ks 0 w1 G F D := ⟨by rw [mid_zero]; exact HH.out.below hB, fun b hb => .inl hb, fun g hg => ⟨g, hg, rfl⟩, Turned.refl _ _⟩
  have H0 := Lib.hid h0
  have hsz := hB.size
  have HB := Lib.hid hB
  clear hNL h0 hB N
  generalize hn : s.files.length = n at *
  have Hn := Lib.hid hn
  clear hn
  go_loopg [10] n (fun g s10 wr => ∃ (i : Nat) (Gi : List Gf) (Fi : Nat → Prop) (Di : DataW Unit), s10 = .int .i64 i ∧ i ≤ n ∧ n - i ≤ g ∧ Hid (Mid q w w1 fb mb G dp s F ks i wr Gi Fi Di))
  case atStart => exact ⟨0, _, _, _, rfl, Nat.zero_le _, by omega, H0⟩
  case round =>
    obtain ⟨i, Gi, Fi, Di, rfl, hi, hgm, HM⟩ := hrel
    by_cases hlt : i < n
    · obtain ⟨x, hx⟩ : ∃ x, s.files[i]? = some x := ⟨s.files[i]'(by rw [Hn.out]; exact hlt), List.getElem?_eq_getElem _⟩
      have hF := HM.out.fs
      have hxm : x ∈ Gi.map (·.f) := by
        rw [← hF.files]
        show x ∈ mid ks s.files i
        rw [(mid_split ks hx).1]
        simp
      obtain ⟨g, hg, hgx⟩ := List.mem_map.1 hxm
      have E := hF.each g hg
      have hOF := HOF.out
      have hp : x.plat ≤ x.bytes.length := hOF.plat x (List.mem_of_getElem? hx)
      have hbl : x.bytes.length ≤ 1048576 := by have h1 := total_mem (List.mem_of_getElem? hx); omega
      have hnm : (B x.name).size ≤ maxLen := by have := isNm_le (hOF.nm x (List.mem_of_getElem? hx)); rw [B_size]; unfold maxLen; omega
      have L := hF.look1 (B x.name) hnm hg (by rw [hgx, list_B])
      have c1 := hF.cells.2.1
      obtain ⟨GA, gc, hv, hlc, hcm⟩ := own_form2 E.row
      have k0 : wr.cell? ⟨g.blk, 0, none⟩ = some (.slice GA x.bytes.length gc) := by rw [← hgx, ← hv]; exact E.blk.cell 0
      have k1 : wr.cell? ⟨g.blk, 1, none⟩ = some (.int .i64 x.plat) := by rw [← hgx]; exact E.blk.cell 1
      have f0 := E.blk.frozen 0
      have f1 := E.blk.frozen 1
      have hNL := HN.out.turned HM.out.turned (fun b ⟨y, hy, e⟩ => .inl (by rw [e]; exact (HH.out.each y hy).blk.lt))
      obtain ⟨nb, no, rfl, hnb, _, hnc'⟩ := hNL (by rw [strV_length, namesOf_length, Hn.out]; omega)
      have q1 : wr.cell? ⟨nb, no + i, none⟩ = some (.string (B x.name)) := hnc' i _ (by simp [strV, namesOf, hx])
      have C := Lib.hid (fun k => inAir_is (wr.drewN k) (g := g) (F := Fi) (E.same fun _ _ => rfl) (by rw [hgx]; exact hp) (by rw [hgx]; exact hbl))
      have HS : Hid (∀ w' (k : Int), k = ks.getD i 0 → Turned (fun b => b = g.blk) wr w' → At w' g.blk 85 #[.slice GA (keepN k x) gc, .int .i64 (keepN k x)] → ∃ G' F' D', Mid q w w1 fb mb G dp s F ks (i + 1) w' G' F' D') :=
        Lib.hid fun w' k hk hT hA => HM.out.step hsz hOF hx hg hgx (by rw [hv, hgx]) hk hT hA
      have HT := Lib.hid HM.out.turned
      obtain ⟨y0, hy0, hby⟩ := HM.out.blks g hg
      have HBY := Lib.hid hby
      clear hby
      have HE : Hid (At wr g.blk 85 #[.slice GA x.bytes.length gc, .int .i64 x.plat]) := Lib.hid (by rw [← hgx, ← hv]; exact E.blk)
      rw [hgx] at C
      have hn9 : n ≤ 9223372036854775807 := by omega
      have hcm9 : gc ≤ 9223372036854775807 := by unfold maxLen at hcm; omega
      have hncm9 : nc ≤ 9223372036854775807 := by unfold maxLen at hncm; omega
      have hlc' : x.bytes.length ≤ gc := by rw [← hgx]; exact hlc
      clear hF hxm E hNL hnc' hOF hv hgx hg HM hcm hlc hcap hroom
      by_cases hik : i < ks.length
      · obtain ⟨kb, ko, rfl, hkb, hkn1, hkn2, hkc⟩ := HKK.out (by omega)
        have q2 : wr.cell? ⟨kb, ko + i, none⟩ = some (.int .i64 (ks.getD i 0)) := by
          have e := hkc i hik
          rw [← e, ← HB.out.cell (p := ⟨kb, ko + i, none⟩) hkb]
          exact World.cell?_of_block (w := w1) (HT.out.block kb (by show kb < _; omega) (fun ⟨y, hy, e⟩ => hkn2 y hy e))
        have HK2 := Lib.hid (keepN_int (ks.getD i 0) x rfl rfl)
        have HKL := Lib.hid (keepN_le (k := ks.getD i 0) hp)
        have hb1 : (0 : Int) ≤ min (max (ks.getD i 0) 0) ((x.bytes.length - x.plat : Nat) : Int) := by omega
        have hb2 : min (max (ks.getD i 0) 0) ((x.bytes.length - x.plat : Nat) : Int) ≤ ((x.bytes.length - x.plat : Nat) : Int) := by omega
        have hne : ¬ g.blk = kb := fun e => hkn2 y0 hy0 (by rw [← e, HBY.out])
        clear hkc hkn1 hkn2 HT
        generalize hgk : ks.getD i 0 = kk at *
        have HKK2 := Lib.hid hgk
        clear hgk
        generalize x.bytes.length = gl at *
        generalize g.blk = gb at *
        generalize B x.name = nm at *
        generalize x.plat = gp at *
        generalize hkx : keepN kk x = kx at *
        have HKX := Lib.hid hkx
        clear hkx HBY
        have hkp : gp ≤ kx := by have := HK2.out; omega
        have hkg : kx ≤ gl := HKL.out
        have HWR : Hid (IntKind.i64.wrap ((gp : Int) + min (max kk 0) ((gl - gp : Nat) : Int)) = (kx : Int)) := Lib.hid (by rw [HK2.out]; exact IntWalk.i64_in _ (by omega))
        have HR : Hid (∀ k, At ((wr.drewN k).setCell ⟨gb, 1, none⟩ (.int .i64 kx)) gb 85 #[.slice GA gl gc, .int .i64 kx] ∧ Turned (fun b => b = gb) wr ((wr.drewN k).setCell ⟨gb, 1, none⟩ (.int .i64 kx))) :=
          Lib.hid fun k => ⟨At.set (w := wr.drewN k) HE.out 1 _, ((Turned.refl (fun b => b = gb) wr).drewN k).setCell (p := ⟨gb, 1, none⟩) (.inl rfl) _⟩
        clear HE
        go_wp2
        go_cut [] (fun wx => At wx gb 85 #[.slice GA gl gc, .int .i64 kx] ∧ Turned (fun b => b = gb) wr wx)
        case first =>
          go_region_law (first | (go_simp; go_at_call 56; refine (C.out _).mono ?_; rintro e w' ⟨rfl, n1, rfl⟩))
          all_goals (go_wp2_with fail; go_meet; rw [HWR.out]; exact HR.out _)
        case rest =>
          obtain ⟨hA5, hT5⟩ := hcut
          have k0 : wc.cell? ⟨gb, 0, none⟩ = some (.slice GA gl gc) := hA5.cell 0
          have k1 : wc.cell? ⟨gb, 1, none⟩ = some (.int .i64 kx) := hA5.cell 1
          have f0 := hA5.frozen 0
          have f1 := hA5.frozen 1
          have HZ := Lib.hid (HS.out ((wc.setCell ⟨gb, 0, none⟩ (.slice GA kx gc)).drew) kk rfl ((hT5.setCell (p := ⟨gb, 0, none⟩) (.inl rfl) _).drew) (by rw [HKX.out]; exact At.set hA5 0 _))
          have hkc' : kx ≤ gc := by omega
          clear hA5 hT5 HS HR HWR
          go_wp2
          go_region
          go_wp2
          go_roundg (n - (i + 1))
          case measure => omega
          case rel =>
            obtain ⟨G', F', D', hZ⟩ := HZ.out
            exact ⟨i + 1, G', F', D', by go_num, by omega, by omega, Lib.hid hZ⟩
      · have hkn : keepN 0 x = x.plat := by unfold keepN; omega
        have hk0 : (0 : Int) = ks.getD i 0 := by simp [List.getD, List.getElem?_eq_none (Nat.le_of_not_lt hik)]
        have HZ := HS.out ((wr.setCell ⟨g.blk, 0, none⟩ (.slice GA x.plat gc)).drew) 0 hk0 (((Turned.refl (fun b => b = g.blk) wr).setCell (p := ⟨g.blk, 0, none⟩) (.inl rfl) _).drew) (by rw [hkn]; exact At.set HE.out 0 _)
        have HZ := Lib.hid HZ
        clear hkn hk0 C HS HE
        generalize x.bytes.length = gl at *
        generalize g.blk = gb at *
        generalize B x.name = nm at *
        generalize x.plat = gp at *
        have hpc : gp ≤ gc := by omega
        go_wp2
        go_region
        go_wp2
        go_roundg (n - (i + 1))
        case measure => omega
        case rel =>
          obtain ⟨G', F', D', hZ⟩ := HZ.out
          exact ⟨i + 1, G', F', D', by go_num, by omega, by omega, Lib.hid hZ⟩
    · obtain rfl : i = n := by omega
      have hF := HM.out.fs
      obtain ⟨_, _, c2, _, c4, cf⟩ := hF.cells
      have f2 := cf 2
      have f4 := cf 4
      have HE : Hid (Went F fb (crash ks s) w ((wr.setCell ⟨fb, 2, none⟩ (.bool true)).setCell ⟨fb, 4, none⟩ (.pointer none))) := Lib.hid (by
        have hM := HM.out
        have e1 : mid ks s.files i = lose ks s.files := by rw [← Hn.out]; exact mid_all ks s.files
        have hT : Turned (fun b => b = fb) wr ((wr.setCell ⟨fb, 2, none⟩ (.bool true)).setCell ⟨fb, 4, none⟩ (.pointer none)) := ((Turned.refl (fun b => b = fb) wr).setCell (p := ⟨fb, 2, none⟩) (.inl rfl) _).setCell (p := ⟨fb, 4, none⟩) (.inl rfl) _
        have hW : Fs ((wr.setCell ⟨fb, 2, none⟩ (.bool true)).setCell ⟨fb, 4, none⟩ (.pointer none)) fb mb Di Gi none (crash ks s) Fi :=
          hF.turnHead (s' := crash ks s) (fun b hb => hb) (fun b hb => Nat.lt_of_lt_of_le (hF.lt b hb) hT.size) (fun b t cs hA ht => hT.block b hA.lt (hA.ne hF.head (by rcases ht with rfl | rfl <;> decide))) (hT.block mb hF.map.lt (Ne.symm hF.neMap))
            (At.set (At.set hF.head 2 (.bool true)) 4 (.pointer none)) e1.symm rfl (ok_crash HH.out.ok ks HH.out.ok.f)
        refine ⟨(((Turned.of_below HB.out F).trans (hM.turned.mono (F' := F) fun b ⟨y, hy, e⟩ => by rw [e]; exact (HH.out.each y hy).mine) (fun b hb => .inl hb))).trans (hT.mono (F' := F) fun b e => by rw [e]; exact HH.out.mineF) (fun b hb => .inl hb), Fi, hM.few, mb, _, _, _, hW⟩)
      clear hF cf HM
      go_wp2
      go_end0
      exact ⟨rfl, HE.out⟩
end
end Go.Proofs.YtmknbakfjhjfmaaGreatDoor.fil
