/- Pieces: the law's examples come out. -/
import Derived.Test.YtmknbakfjhjfmaaGreatDoorTwin
import Derived.Laws.AppendOwnNone
import Derived.Lib.AppendStr
import Derived.Lib.Strings
import Derived.Lib.AppendZeros
import Derived.Lib.SliceRun
import Derived.Deep.RegionLaw
import Derived.Deep.RegionHeld3
/-! Pieces: lists of texts cut in pieces, as plain lists and numbers. Nothing of the program is used. -/
namespace Go.Proofs.YtmknbakfjhjfmaaGreatDoor.pce
set_option linter.unusedVariables false
set_option linter.unusedSimpArgs false
set_option linter.unnecessarySimpa false
set_option linter.unusedSectionVars false

/-- A piece: where it stands, and its texts. -/
structure Pc where
  blk : Nat
  off : Nat
  l : List ByteArray

/-- What a piece has from low up to high. -/
def Pc.cut (p : Pc) (low high : Nat) : Pc := ⟨p.blk, p.off + low, (p.l.take high).drop low⟩
def texts (ps : List Pc) : List ByteArray := ps.flatMap (·.l)
def Full (ps : List Pc) : Prop := ∀ p ∈ ps, p.l ≠ []

/-- One round: what of a piece stands behind the first a texts, up to the one numbered u. -/
def one (a u : Int) (p : Pc) : List Pc := if max a 0 < min u p.l.length then [p.cut (max a 0).toNat (min u p.l.length).toNat] else []
def btw : Int → Int → List Pc → List Pc
  | _, _, [] => []
  | a, u, p :: r => one a u p ++ btw (a - p.l.length) (u - p.l.length) r

theorem texts_nil : texts [] = [] := rfl
theorem texts_cons (p : Pc) (r : List Pc) : texts (p :: r) = p.l ++ texts r := by simp [texts]
theorem texts_append (a b : List Pc) : texts (a ++ b) = texts a ++ texts b := by simp [texts]
theorem texts_one (p : Pc) : texts [p] = p.l := by simp [texts]
theorem Full.nil : Full [] := fun _ h => by cases h
theorem Full.append {a b : List Pc} (h : Full a) (k : Full b) : Full (a ++ b) := fun p hp => (List.mem_append.1 hp).elim (h p) (k p)
theorem Full.one {p : Pc} (h : p.l ≠ []) : Full [p] := fun q hq => by rw [List.mem_singleton.1 hq]; exact h
theorem Full.cons {p : Pc} {r : List Pc} (h : Full (p :: r)) : p.l ≠ [] ∧ Full r := ⟨h p (by simp), fun q hq => h q (by simp [hq])⟩
theorem Full.take {ps : List Pc} (h : Full ps) (k : Nat) : Full (ps.take k) := fun p hp => h p (List.mem_of_mem_take hp)

theorem cut_len (p : Pc) {low high : Nat} (h1 : low ≤ high) (h2 : high ≤ p.l.length) : (p.cut low high).l.length = high - low := by
  simp only [Pc.cut, List.length_drop, List.length_take]; omega
theorem one_text (a u : Int) (p : Pc) : texts (one a u p) = (p.l.take u.toNat).drop a.toNat := by
  unfold one
  split
  · rename_i h
    rw [texts_one]
    simp only [Pc.cut]
    rw [show (max a 0).toNat = a.toNat by omega]
    by_cases hu : u ≤ p.l.length
    · rw [show (min u p.l.length).toNat = u.toNat by omega]
    · rw [show (min u (p.l.length : Int)).toNat = p.l.length by omega, List.take_length, List.take_of_length_le (by omega)]
  · rename_i h
    rw [texts_nil]
    symm
    rw [List.drop_eq_nil_iff, List.length_take]
    omega
theorem one_full (a u : Int) (p : Pc) : Full (one a u p) := by
  unfold one
  split
  · rename_i h
    refine Full.one fun e => ?_
    have := congrArg List.length e
    rw [cut_len p (by omega) (by omega)] at this
    simp at this
    omega
  · exact Full.nil
theorem one_len (a u : Int) (p : Pc) : (one a u p).length ≤ 1 := by unfold one; split <;> simp

theorem btw_nil (a u : Int) : btw a u [] = [] := rfl
theorem btw_cons (a u : Int) (p : Pc) (r : List Pc) : btw a u (p :: r) = one a u p ++ btw (a - p.l.length) (u - p.l.length) r := rfl
theorem btw_text : ∀ (ps : List Pc) (a u : Int), texts (btw a u ps) = ((texts ps).take u.toNat).drop a.toNat
  | [], a, u => by simp [btw, texts]
  | p :: r, a, u => by
    rw [btw_cons, texts_append, one_text, btw_text r, texts_cons]
    rw [show (u - (p.l.length : Int)).toNat = u.toNat - p.l.length by omega, show (a - (p.l.length : Int)).toNat = a.toNat - p.l.length by omega]
    rw [List.take_append, List.drop_append, List.length_take]
    by_cases hu : u.toNat ≤ p.l.length
    · rw [show u.toNat - p.l.length = 0 by omega]; simp
    · rw [show min u.toNat p.l.length = p.l.length by omega]
theorem btw_full : ∀ (ps : List Pc) (a u : Int), Full (btw a u ps)
  | [], a, u => Full.nil
  | p :: r, a, u => (one_full a u p).append (btw_full r _ _)
theorem btw_len : ∀ (ps : List Pc) (a u : Int), (btw a u ps).length ≤ ps.length
  | [], a, u => by simp [btw]
  | p :: r, a, u => by
    rw [btw_cons, List.length_append, List.length_cons]
    have := one_len a u p; have := btw_len r (a - p.l.length) (u - p.l.length); omega
theorem btw_none : ∀ (ps : List Pc) (a u : Int), u ≤ 0 → btw a u ps = []
  | [], a, u, _ => rfl
  | p :: r, a, u, h => by
    rw [btw_cons, btw_none r _ _ (by omega)]
    unfold one
    rw [if_neg (by omega)]; rfl
/-- Two stretches, one behind the other, have at most one piece more than there are. -/
theorem btw_two : ∀ (ps : List Pc) (a u b v : Int), u ≤ b → (btw a u ps).length + (btw b v ps).length ≤ ps.length + 1
  | [], a, u, b, v, _ => by simp [btw]
  | p :: r, a, u, b, v, h => by
    by_cases hu : u ≤ 0
    · rw [btw_none _ a u hu]
      have := btw_len (p :: r) b v
      simp only [List.length_nil]; omega
    · rw [btw_cons, btw_cons, List.length_append, List.length_append, List.length_cons]
      have h1 := one_len a u p
      have h2 := one_len b v p
      by_cases hb : b < p.l.length
      · rw [btw_none r _ (u - p.l.length) (by omega)]
        have := btw_len r (b - p.l.length) (v - p.l.length)
        simp only [List.length_nil]; omega
      · have e : one b v p = [] := by unfold one; rw [if_neg (by omega)]
        rw [e]
        have := btw_two r (a - p.l.length) (u - p.l.length) (b - p.l.length) (v - p.l.length) (by omega)
        simp only [List.length_nil]; omega

theorem texts_len : ∀ {ps : List Pc}, Full ps → ps.length ≤ (texts ps).length
  | [], _ => by simp
  | p :: r, h => by
    have h1 := h.cons.1
    have := texts_len h.cons.2
    have : 0 < p.l.length := List.length_pos_iff.2 h1
    rw [texts_cons, List.length_append, List.length_cons]; omega
theorem texts_zero {ps : List Pc} (h : Full ps) : texts ps = [] ↔ ps = [] := by
  constructor
  · intro e
    have := texts_len h
    rw [e] at this
    exact List.eq_nil_of_length_eq_zero (by simpa using this)
  · rintro rfl; rfl
theorem texts_take (ps : List Pc) (k : Nat) {p : Pc} (h : ps[k]? = some p) : texts (ps.take (k + 1)) = texts (ps.take k) ++ p.l := by
  obtain ⟨hk, rfl⟩ := List.getElem?_eq_some_iff.1 h
  rw [List.take_succ_eq_append_getElem hk, texts_append, texts_one]
theorem texts_take_len (ps : List Pc) (k : Nat) : (texts (ps.take k)).length ≤ (texts ps).length := by
  conv => rhs; rw [← List.take_append_drop k ps, texts_append, List.length_append]
  omega
theorem piece_len {ps : List Pc} {k : Nat} {p : Pc} (h : ps[k]? = some p) : p.l.length ≤ (texts ps).length := by
  have := texts_take ps k h
  have h2 := texts_take_len ps (k + 1)
  rw [this, List.length_append] at h2; omega

/-- How far the pieces of the first k reach: what the round stands at. -/
def at_ (ps : List Pc) (k : Nat) : Int := ((texts (ps.take k)).length : Int)
theorem at_zero (ps : List Pc) : at_ ps 0 = 0 := by simp [at_, texts]
theorem at_succ (ps : List Pc) (k : Nat) {p : Pc} (h : ps[k]? = some p) : at_ ps (k + 1) = at_ ps k + p.l.length := by
  unfold at_; rw [texts_take ps k h, List.length_append]; omega
theorem at_all (ps : List Pc) : at_ ps ps.length = ((texts ps).length : Int) := by unfold at_; rw [List.take_length]
theorem at_le (ps : List Pc) (k : Nat) : 0 ≤ at_ ps k ∧ at_ ps k ≤ ((texts ps).length : Int) := by
  unfold at_; have := texts_take_len ps k; omega
theorem btw_snoc : ∀ (ps : List Pc) (k : Nat) (a u : Int) {p : Pc}, ps[k]? = some p → btw a u (ps.take (k + 1)) = btw a u (ps.take k) ++ one (a - at_ ps k) (u - at_ ps k) p
  | [], k, a, u, p, h => by simp at h
  | q :: r, 0, a, u, p, h => by
    obtain rfl : q = p := by simpa using h
    simp [btw, at_, texts]
  | q :: r, k + 1, a, u, p, h => by
    rw [List.take_succ_cons, List.take_succ_cons, btw_cons, btw_cons, btw_snoc r k _ _ (by simpa using h), List.append_assoc]
    have e : at_ (q :: r) (k + 1) = q.l.length + at_ r k := by
      unfold at_; rw [List.take_succ_cons, texts_cons, List.length_append]; omega
    rw [e]
    rw [show a - ((q.l.length : Int) + at_ r k) = a - q.l.length - at_ r k by omega, show u - ((q.l.length : Int) + at_ r k) = u - q.l.length - at_ r k by omega]

/-- What a splice makes of texts. -/
def spl (L : List ByteArray) (a d : Nat) (ins : List ByteArray) : List ByteArray := L.take a ++ ins ++ L.drop (a + d)
theorem spl_len {L : List ByteArray} {a d : Nat} {ins : List ByteArray} (h : a + d ≤ L.length) : (spl L a d ins).length = L.length - d + ins.length := by
  simp only [spl, List.length_append, List.length_take, List.length_drop]; omega
theorem spl_back {L : List ByteArray} {a d : Nat} {ins : List ByteArray} (h : a + d ≤ L.length) : spl (spl L a d ins) a ins.length ((L.take (a + d)).drop a) = L := by
  have h1 : (L.take a).length = a := by rw [List.length_take]; omega
  have e1 : (spl L a d ins).take a = L.take a := by
    unfold spl
    rw [List.append_assoc, List.take_append_of_le_length (by omega), List.take_of_length_le (by omega)]
  have e2 : (spl L a d ins).drop (a + ins.length) = L.drop (a + d) := by
    unfold spl
    exact List.drop_left' (by rw [List.length_append]; omega)
  unfold spl at e1 e2 ⊢
  rw [e1, e2]
  have e3 : L.take a = (L.take (a + d)).take a := by rw [List.take_take]; congr 1; omega
  rw [e3, List.take_append_drop, List.take_append_drop]
theorem spl_mid {L : List ByteArray} {a d : Nat} {ins : List ByteArray} (h : a + d ≤ L.length) : ((spl L a d ins).take (a + ins.length)).drop a = ins := by
  have h1 : (L.take a).length = a := by rw [List.length_take]; omega
  unfold spl
  rw [List.take_append_of_le_length (by rw [List.length_append]; omega), List.take_of_length_le (by rw [List.length_append]; omega), List.drop_append_of_le_length (by omega), List.drop_of_length_le (by omega), List.nil_append]
end Go.Proofs.YtmknbakfjhjfmaaGreatDoor.pce

/-! Lists of texts: what is asked of them again and again, and the document's Join and Check (stage 1's texts, gathered). -/
namespace Go.Proofs.YtmknbakfjhjfmaaGreatDoor
open Go.RowKit Go.Shelf Go.Lib
set_option linter.unusedVariables false
set_option linter.unusedSimpArgs false

theorem SRd.of_row {w : World} {base : Nat} {A : Option Addr} {m c : Nat} {zs more : List ByteArray} (hm : m = (zs ++ more).length) (h : w.ownsRow base 9 1 (.slice A m c) m ((zs ++ more).map Value.string)) : SRd w w.heap.size A zs := by
  intro hn
  have hm0 : 0 < m := by rw [hm, List.length_append]; omega
  obtain ⟨g, cap, hv, _, hlt⟩ := h.form hm0
  have hA : A = some ⟨g, 0, none⟩ := by injection hv
  subst hA
  refine ⟨g, 0, rfl, hlt, fun j hj => ?_⟩
  have := h.cells (g := g) rfl j (.string (zs.getD j ByteArray.empty)) (by
    rw [List.map_append, List.getElem?_append_left (by simpa using hj), List.getElem?_map, List.getElem?_eq_getElem hj]
    simp [List.getD, List.getElem?_eq_getElem hj])
  rwa [Go.WideShapes.add_plain] at this

theorem size_list (s : ByteArray) : s.data.toList.length = s.size := by rw [Array.length_toList]; rfl

theorem SRd.cells {w : World} {n₀ : Nat} {ad : Addr} {zs : List ByteArray} (h : SRd w n₀ (some ad) zs) : ∀ j u, (zs.map Value.string)[j]? = some u → w.cell? (ad.add j) = some u := fun j u hu => by
  obtain ⟨hj, hu⟩ := List.getElem?_eq_some_iff.1 hu
  have hj' : j < zs.length := by simpa using hj
  obtain ⟨b, off, e, hb, hcell⟩ := h (by omega)
  injection e with e
  subst e
  have := hcell j hj'
  rw [Go.WideShapes.add_plain, this, ← hu]
  simp [List.getD, List.getElem?_eq_getElem hj']

/-- append(own, list...), the list nil or not. -/
theorem wpList_append_list {w : World} {ops : Array Oper} {rest : List Oper} {o : Oper} {a : Act} {Q : Exit → Act → World → Prop} (hgd : o.guard = none) (s x : Operand)
    (ho : o.op = .call { callee := .builtin .append, args := #[s, x], argTypes := #[22, 22] })
    (base : Nat) (v : Value) (n : Nat) (xs : List Value) (hs : a.eval s = v) (hown : w.ownsRow base 9 1 v n xs)
    (A : Option Addr) (m c n₀ : Nat) (zs : List ByteArray) (hx : a.eval x = .slice A m c) (hm : m = zs.length) (hA : A = none → c = 0) (hr : SRd w n₀ A zs)
    (h63 : n + m ≤ 1000000) (hbase : base ≤ w.heap.size)
    (h : ∀ v' w', w'.ownsRow base 9 1 v' (n + m) (xs ++ zs.map Value.string) → w.grownBy w' v.ownBlock → wpList Tryz.prog ops Q rest (a.put o.dst v') w') : wpList Tryz.prog ops Q (o :: rest) a w := by
  obtain ⟨i0, hi, hz0, hz1, hz2⟩ := info_parts info9
  have hml : (1000000 : Nat) ≤ maxLen := by unfold maxLen; omega
  rcases A with _ | ad
  · obtain rfl : c = 0 := hA rfl
    obtain rfl : m = 0 := by
      rcases Nat.eq_zero_or_pos m with h0 | h0
      · exact h0
      · obtain ⟨_, _, h, _⟩ := hr (by omega)
        cases h
    obtain rfl : zs = [] := List.eq_nil_of_length_eq_zero hm.symm
    exact wpList_append_own_none hgd s x 22 ho base 9 i0 1 Tryz.underlying22 hi v n xs hs hown hx (h v w (by simpa using hown) (World.grownBy.refl w _))
  · exact wpList_append_own w hgd s x 22 ho base 9 i0 (.string ⟨#[]⟩) 1 16 Tryz.underlying22 hi hz0 hz1 hz2 rfl (by decide) v n xs hs hown ad m c (zs.map Value.string) hx (by rw [List.length_map]; omega) hr.cells (one_strs _) (by omega) (by omega) hbase (fun v' w' h1 h2 _ => h v' w' h1 h2)

theorem own_form {w : World} {base n : Nat} {v : Value} {xs : List Value} (h : w.ownsRow base 9 1 v n xs) : ∃ A c, v = .slice A n c := by
  rcases h.2 with ⟨hv, h0⟩ | ⟨g, cap, _, hv, _⟩
  · exact ⟨none, 0, by rw [hv, h0]⟩
  · exact ⟨_, _, hv⟩

theorem own_nil {w : World} {base n c : Nat} {A : Option Addr} {xs : List Value} (h : w.ownsRow base 9 1 (.slice A n c) n xs) : A = none → c = 0 := by
  intro hA
  subst hA
  rcases h.2 with ⟨hv, h0⟩ | ⟨g, cap, _, hv, _⟩
  · injection hv
  · injection hv with h; cases h

theorem append_list (a b : ByteArray) : (a ++ b).data.toList = a.data.toList ++ b.data.toList := by simp

theorem any_take {p : ByteArray → Bool} (zs : List ByteArray) (k : Nat) (h : k < zs.length) : (zs.take (k + 1)).any p = ((zs.take k).any p || p (zs.getD k ByteArray.empty)) := by
  have e : zs.getD k ByteArray.empty = zs[k] := by simp [List.getD, List.getElem?_eq_getElem h]
  rw [e, List.take_succ_eq_append_getElem h, List.any_append]
  simp

theorem own_below {w w' : World} {base n : Nat} {v : Value} {xs : List Value} (h : w.ownsRow base 9 1 v n xs) (hB : Below w.heap.size w w') : w'.ownsRow base 9 1 v n xs := by
  have hl := h.lt
  refine ⟨h.1, ?_⟩
  rcases h.2 with h0 | ⟨g, cap, cur, rfl, hb, hg, h1⟩
  · exact .inl h0
  · exact .inr ⟨g, cap, cur, rfl, hb, (hB.block g (hl g rfl).2).trans hg, h1⟩

end Go.Proofs.YtmknbakfjhjfmaaGreatDoor

/-! Pieces: words on memory: what stands behind an address, in blocks of F; a table of pieces. -/
namespace Go.Proofs.YtmknbakfjhjfmaaGreatDoor.pce
open Go.RowKit Go.Lib
set_option linter.unusedVariables false
set_option linter.unusedSimpArgs false
set_option linter.unnecessarySimpa false
set_option linter.unusedSectionVars false

/-- Block g is just the cells cs of type t, none of them frozen. -/
def At (w : World) (g : Nat) (t : TypeId) (cs : Array Value) : Prop := w.heap[g]? = some (.cells cs t (0, 0))

section
variable {w w' : World} {g g' : Nat} {t t' : TypeId} {cs cs' : Array Value}
theorem At.lt (h : At w g t cs) : g < w.heap.size := (Array.getElem?_eq_some_iff.1 h).1
theorem At.cell (h : At w g t cs) (i : Nat) : w.cell? ⟨g, i, none⟩ = cs[i]? := cell_of_row w g i cs t (0, 0) h
theorem At.frozen (h : At w g t cs) (i : Nat) : w.frozen? ⟨g, i, none⟩ = false := by unfold At at h; simp [World.frozen?, h]
theorem At.new (w : World) (t : TypeId) (cs : Array Value) : At (w.alloc (.cells cs t)) w.heap.size t cs := heap_alloc_new w _
theorem At.alloc (h : At w g t cs) (o : Obj) : At (w.alloc o) g t cs := (Below.heap_alloc w o g h.lt).trans h
theorem At.same (h : At w g t cs) (hb : w'.heap[g]? = w.heap[g]?) : At w' g t cs := hb.trans h
theorem At.set (h : At w g t cs) (i : Nat) (u : Value) : At (w.setCell ⟨g, i, none⟩ u) g t (cs.setIfInBounds i u) := by
  unfold At at h ⊢
  simp [World.setCell, Array.getElem?_modify, h]
theorem At.far (h : At w g t cs) {p : Addr} (hp : g ≠ p.block) (u : Value) : At (w.setCell p u) g t cs := (Below.heap_setCell w p u g hp).trans h
theorem own_at {base : Nat} {e : TypeId} {size n : Nat} {v : Value} {xs : List Value} (h : w.ownsRow base e size v n xs) {b : Nat} (hb : v.ownBlock = some b) : ∃ cs, At w b e cs := by
  rcases h.2 with ⟨rfl, _⟩ | ⟨g, cap, cur, rfl, _, hh, _⟩
  · cases hb
  · have : g = b := by simpa [Value.ownBlock] using hb
    subst this
    exact ⟨_, hh⟩
theorem own_same {base : Nat} {e : TypeId} {size n : Nat} {v : Value} {xs : List Value} (h : w.ownsRow base e size v n xs) (hb : ∀ b, v.ownBlock = some b → w'.heap[b]? = w.heap[b]?) : w'.ownsRow base e size v n xs := by
  refine ⟨h.1, ?_⟩
  rcases h.2 with h0 | ⟨g, cap, cur, rfl, hg, hh, r⟩
  · exact .inl h0
  · exact .inr ⟨g, cap, cur, rfl, hg, (hb g rfl).trans hh, r⟩
theorem own_keep {base : Nat} {e : TypeId} {size n : Nat} {v : Value} {xs : List Value} (h : w.ownsRow base e size v n xs) (hB : Below w.heap.size w w') : w'.ownsRow base e size v n xs :=
  own_same h fun b hb => hB.block b (h.lt b hb).2
end

/-- Behind the address A the values vs stand, in a block of F. -/
def VRd (w : World) (F : Nat → Prop) (A : Option Addr) (vs : List Value) : Prop :=
  0 < vs.length → ∃ b off, A = some ⟨b, off, none⟩ ∧ F b ∧ b < w.heap.size ∧ ∀ j u, vs[j]? = some u → w.cell? ⟨b, off + j, none⟩ = some u

section
variable {w w' : World} {F F' : Nat → Prop} {A : Option Addr} {vs : List Value} {zs : List ByteArray}
theorem VRd.nil : VRd w F A [] := fun h => absurd h (by simp)
theorem VRd.keep (h : VRd w F A vs) (hk : ∀ b, F b → b < w.heap.size → w'.heap[b]? = w.heap[b]?) (hs : w.heap.size ≤ w'.heap.size) : VRd w' F A vs := fun hn => by
  obtain ⟨b, off, e, hF, hb, hc⟩ := h hn
  exact ⟨b, off, e, hF, by omega, fun j u hj => (World.cell?_of_block (hk b hF hb)).trans (hc j u hj)⟩
theorem VRd.mono (h : VRd w F A vs) (hF : ∀ b, F b → b < w.heap.size → F' b) : VRd w F' A vs := fun hn => by
  obtain ⟨b, off, e, h1, hb, hc⟩ := h hn
  exact ⟨b, off, e, hF b h1 hb, hb, hc⟩
theorem VRd.below (h : VRd w F A vs) (hB : Below w.heap.size w w') : VRd w' F A vs := h.keep (fun b _ hb => hB.block b hb) hB.size
theorem VRd.of_own {base : Nat} {e : TypeId} {n c : Nat} (h : w.ownsRow base e 1 (.slice A n c) n vs) : VRd w (base ≤ ·) A vs := fun hn => by
  rcases h.2 with ⟨hv, h0⟩ | ⟨g, cap, cur, hv, hg, hh, _⟩
  · have := h.1; omega
  · injection hv with hA
    subst hA
    refine ⟨g, 0, rfl, hg, At.lt hh, fun j u hj => ?_⟩
    have := h.cells (g := g) rfl j u hj
    rwa [Go.WideShapes.add_plain] at this
theorem VRd.cells (h : VRd w F A vs) {ad : Addr} (hA : A = some ad) : ∀ j u, vs[j]? = some u → w.cell? (ad.add j) = some u := fun j u hj => by
  obtain ⟨b, off, e, _, _, hc⟩ := h (by have := (List.getElem?_eq_some_iff.1 hj).1; omega)
  rw [hA] at e
  injection e with e
  subst e
  rw [Go.WideShapes.add_plain]
  exact hc j u hj
/-- As a list of texts that the contracts of stage 1 read. -/
theorem VRd.srd (h : VRd w F A (zs.map Value.string)) : SRd w w.heap.size A zs := fun hn => by
  obtain ⟨b, off, e, _, hb, hc⟩ := h (by simpa using hn)
  refine ⟨b, off, e, hb, fun j hj => hc j _ ?_⟩
  rw [List.getElem?_map, List.getElem?_eq_getElem hj]
  simp [List.getD, List.getElem?_eq_getElem hj]
theorem VRd.of_srd {n : Nat} (h : SRd w n A zs) (hn : n ≤ w.heap.size) : VRd w (· < n) A (zs.map Value.string) := fun h0 => by
  obtain ⟨b, off, e, hb, hc⟩ := h (by simpa using h0)
  refine ⟨b, off, e, hb, by omega, fun j u hj => ?_⟩
  obtain ⟨hj1, rfl⟩ := List.getElem?_eq_some_iff.1 hj
  have hj2 : j < zs.length := by simpa using hj1
  rw [hc j hj2]
  simp [List.getD, List.getElem?_eq_getElem hj2]
end

/-- The slice that a piece is. -/
def pv (p : Pc) : Value := .slice (some ⟨p.blk, p.off, none⟩) p.l.length p.l.length
structure PcAt (w : World) (F : Nat → Prop) (p : Pc) : Prop where
  mine : F p.blk
  lt : p.blk < w.heap.size
  cells : ∀ j u, (p.l.map Value.string)[j]? = some u → w.cell? ⟨p.blk, p.off + j, none⟩ = some u

/-- A list of pieces behind A, all in blocks of F. -/
structure Pcs (w : World) (F : Nat → Prop) (A : Option Addr) (k c : Nat) (ps : List Pc) : Prop where
  len : k = ps.length
  nil : A = none → c = 0
  full : Full ps
  row : VRd w F A (ps.map pv)
  each : ∀ p ∈ ps, PcAt w F p

def nlAny (L : List ByteArray) : Prop := ∀ z ∈ L, nl z = false ∧ long z = false
/-- Lines that may be a buffer's. -/
def Fine (L : List ByteArray) : Prop := L.length ≤ 2000 ∧ nlAny L

section
variable {w w' : World} {F F' : Nat → Prop} {A : Option Addr} {k c : Nat} {ps : List Pc} {p : Pc} {v : Value} {L M : List ByteArray}
theorem PcAt.keep (h : PcAt w F p) (hk : ∀ b, F b → b < w.heap.size → w'.heap[b]? = w.heap[b]?) (hs : w.heap.size ≤ w'.heap.size) : PcAt w' F p :=
  ⟨h.mine, by have := h.lt; omega, fun j u hj => (World.cell?_of_block (hk _ h.mine h.lt)).trans (h.cells j u hj)⟩
theorem PcAt.mono (h : PcAt w F p) (hF : ∀ b, F b → b < w.heap.size → F' b) : PcAt w F' p := ⟨hF _ h.mine h.lt, h.lt, h.cells⟩
theorem PcAt.vrd (h : PcAt w F p) : VRd w F (some ⟨p.blk, p.off, none⟩) (p.l.map Value.string) := fun _ => ⟨_, _, rfl, h.mine, h.lt, h.cells⟩
theorem Pcs.keep (h : Pcs w F A k c ps) (hk : ∀ b, F b → b < w.heap.size → w'.heap[b]? = w.heap[b]?) (hs : w.heap.size ≤ w'.heap.size) : Pcs w' F A k c ps :=
  ⟨h.len, h.nil, h.full, h.row.keep hk hs, fun p hp => (h.each p hp).keep hk hs⟩
theorem Pcs.mono (h : Pcs w F A k c ps) (hF : ∀ b, F b → b < w.heap.size → F' b) : Pcs w F' A k c ps := ⟨h.len, h.nil, h.full, h.row.mono hF, fun p hp => (h.each p hp).mono hF⟩
theorem Pcs.below (h : Pcs w F A k c ps) (hB : Below w.heap.size w w') : Pcs w' F A k c ps := h.keep (fun b _ hb => hB.block b hb) hB.size
theorem Fine.nil : Fine [] := ⟨by simp, fun z hz => by cases hz⟩
theorem any_false {p : ByteArray → Bool} : L.any p = false ↔ ∀ z ∈ L, p z = false := by simp
theorem fine_chk : chk L = 0 ↔ Fine L := by
  unfold chk
  constructor
  · intro h
    split at h
    · cases h
    · rename_i h1
      split at h
      · cases h
      · rename_i h2
        have h1' : L.any nl = false := by simpa using h1
        have h2' : L.any long = false := by
          cases e : L.any long
          · rfl
          · exact absurd (.inr e) h2
        exact ⟨by omega, fun z hz => ⟨any_false.1 h1' z hz, any_false.1 h2' z hz⟩⟩
  · intro h
    have h1 : L.any nl = false := any_false.2 fun z hz => (h.2 z hz).1
    have h2 : L.any long = false := any_false.2 fun z hz => (h.2 z hz).2
    rw [h1, h2, if_neg (by simp), if_neg (by have := h.1; simp; omega)]
theorem chk_three (L : List ByteArray) : chk L = 0 ∨ chk L = 2 ∨ chk L = 3 := by
  unfold chk
  split
  · exact .inr (.inl rfl)
  · split
    · exact .inr (.inr rfl)
    · exact .inl rfl
theorem Fine.sub (h : Fine L) (hl : M.length ≤ 2000) (hs : ∀ z ∈ M, z ∈ L) : Fine M := ⟨hl, fun z hz => h.2 z (hs z hz)⟩
theorem Fine.stretch (h : Fine L) (a u : Nat) : Fine ((L.take u).drop a) :=
  h.sub (by have := h.1; rw [List.length_drop, List.length_take]; omega) (fun z hz => List.mem_of_mem_take (List.mem_of_mem_drop hz))
theorem Fine.spl (h : Fine L) (k : Fine M) (a d : Nat) (hl : (spl L a d M).length ≤ 2000) : Fine (pce.spl L a d M) := ⟨hl, fun z hz => by
  unfold pce.spl at hz
  rw [List.mem_append, List.mem_append] at hz
  rcases hz with (hz | hz) | hz
  · exact h.2 z (List.mem_of_mem_take hz)
  · exact k.2 z hz
  · exact h.2 z (List.mem_of_mem_drop hz)⟩
theorem Fine.size (h : Fine L) : ∀ z ∈ L, z.size ≤ 1000 := fun z hz => by
  have := (h.2 z hz).2
  unfold long at this
  simpa using this
end
theorem pv_one (ps : List Pc) : ∀ u ∈ ps.map pv, u.oneCell' = true := by
  intro u hu; obtain ⟨s, _, rfl⟩ := List.mem_map.1 hu; rfl
theorem info22 : (Tryz.prog.info? 22).map (fun i => (i.zero, i.size, i.bytes)) = some (some (.slice none 0 0), 1, 24) := by kernel_rfl
theorem own_form' {w : World} {base n : Nat} {e : TypeId} {v : Value} {xs : List Value} (h : w.ownsRow base e 1 v n xs) : ∃ A c, v = .slice A n c ∧ (A = none → c = 0) ∧ n ≤ c := by
  rcases h.2 with ⟨hv, h0⟩ | ⟨g, cap, _, hv, _, _, h1, _⟩
  · exact ⟨none, 0, by rw [hv, h0], fun _ => rfl, by omega⟩
  · exact ⟨some ⟨g, 0, none⟩, cap, hv, (fun h => (by cases h)), h1⟩
end Go.Proofs.YtmknbakfjhjfmaaGreatDoor.pce

/-! Pieces: what a table is asked by itself: isNone, all, Len, Pieces; tableOf, cut, onePiece. -/
namespace Go.Proofs.YtmknbakfjhjfmaaGreatDoor.pce
open Go.RowKit Go.Lib
set_option linter.unusedVariables false
set_option linter.unusedSimpArgs false
set_option linter.unnecessarySimpa false
set_option linter.unusedSectionVars false

/-- The pieces that one list of lines makes: one, or none. -/
def lone (b o : Nat) (zs : List ByteArray) : List Pc := if zs = [] then [] else [⟨b, o, zs⟩]
theorem lone_text (b o : Nat) (zs : List ByteArray) : texts (lone b o zs) = zs := by
  unfold lone; split
  · rename_i h; rw [h]; rfl
  · rw [texts_one]
theorem lone_len (b o : Nat) (zs : List ByteArray) : (lone b o zs).length = if zs = [] then 0 else 1 := by unfold lone; split <;> rfl
theorem lone_full (b o : Nat) (zs : List ByteArray) : Full (lone b o zs) := by
  unfold lone; split
  · exact Full.nil
  · rename_i h; exact Full.one h

end Go.Proofs.YtmknbakfjhjfmaaGreatDoor.pce

/-! Pieces: between: the pieces of the lines that stand behind the first a ones, up to the one numbered u. -/
namespace Go.Proofs.YtmknbakfjhjfmaaGreatDoor.pce
open Go.RowKit Go.Lib
set_option linter.unusedVariables false
set_option linter.unusedSimpArgs false
set_option linter.unnecessarySimpa false
set_option linter.unusedSectionVars false

theorem cut_at {w : World} {F : Nat → Prop} {p : Pc} (h : PcAt w F p) (low high : Nat) : PcAt w F (p.cut low high) :=
  ⟨h.mine, h.lt, fun j u hj => by
    simp only [Pc.cut, List.map_drop, List.map_take, List.getElem?_drop, List.getElem?_take] at hj ⊢
    split at hj
    · rw [show p.off + low + j = p.off + (low + j) by omega]
      exact h.cells _ u hj
    · cases hj⟩
theorem one_in {w : World} {F : Nat → Prop} {p : Pc} (h : PcAt w F p) (a u : Int) : ∀ q ∈ one a u p, PcAt w F q := fun q hq => by
  unfold one at hq
  split at hq
  · rw [List.mem_singleton.1 hq]; exact cut_at h _ _
  · cases hq
theorem btw_in {w : World} {F : Nat → Prop} : ∀ (ps : List Pc) (a u : Int), (∀ p ∈ ps, PcAt w F p) → ∀ q ∈ btw a u ps, PcAt w F q
  | [], a, u, h, q, hq => by cases hq
  | p :: r, a, u, h, q, hq => by
    rw [btw_cons, List.mem_append] at hq
    rcases hq with hq | hq
    · exact one_in (h p (by simp)) a u q hq
    · exact btw_in r _ _ (fun p hp => h p (by simp [hp])) q hq

end Go.Proofs.YtmknbakfjhjfmaaGreatDoor.pce

/-! slices.Grow of the nil slice, and slices.Concat, of texts and of slices: what it makes is a row of one's own. -/
namespace Go.Proofs.YtmknbakfjhjfmaaGreatDoor.pce
open Go.RowKit Go.Lib
set_option linter.unusedVariables false
set_option linter.unusedSimpArgs false
set_option linter.unnecessarySimpa false
set_option linter.unusedSectionVars false

/-- One of the slices that are put together: where it stands, its room, its values. -/
structure Sg where
  A : Option Addr
  c : Nat
  vs : List Value
def sgv (s : Sg) : Value := .slice s.A s.vs.length s.c
def sum (ss : List Sg) : List Value := ss.flatMap (·.vs)
structure SgAt (w : World) (F : Nat → Prop) (s : Sg) : Prop where
  nil : s.A = none → s.c = 0
  row : VRd w F s.A s.vs
  one : ∀ u ∈ s.vs, u.oneCell' = true
theorem SgAt.keep {w w' : World} {F : Nat → Prop} {s : Sg} (h : SgAt w F s) (hk : ∀ b, F b → b < w.heap.size → w'.heap[b]? = w.heap[b]?) (hs : w.heap.size ≤ w'.heap.size) : SgAt w' F s := ⟨h.nil, h.row.keep hk hs, h.one⟩
theorem SgAt.below {w w' : World} {F : Nat → Prop} {s : Sg} (h : SgAt w F s) (hB : Below w.heap.size w w') : SgAt w' F s := ⟨h.nil, h.row.below hB, h.one⟩
theorem sum_take (ss : List Sg) (k : Nat) {s : Sg} (h : ss[k]? = some s) : sum (ss.take (k + 1)) = sum (ss.take k) ++ s.vs := by
  obtain ⟨hk, rfl⟩ := List.getElem?_eq_some_iff.1 h
  unfold sum
  rw [List.take_succ_eq_append_getElem hk, List.flatMap_append]; simp
theorem sum_take_len (ss : List Sg) (k : Nat) : (sum (ss.take k)).length ≤ (sum ss).length := by
  conv => rhs; rw [← List.take_append_drop k ss]
  unfold sum
  rw [List.flatMap_append, List.length_append]; omega

set_option maxHeartbeats 1000000 in
set_option maxRecDepth 100000 in
theorem growT (w : World) (n : Nat) (hn : n ≤ 100000) :
    Calls Tryz.prog 153 #[.slice none 0 0, .int .i64 n] w fun e w' => ∃ B c, e = .returned (.slice B 0 c) ∧ w'.ownsRow w.heap.size 9 1 (.slice B 0 c) 0 [] ∧ Below w.heap.size w w' := by
  obtain ⟨i0, hi, hz0, hz1, hz2⟩ := info_parts info9
  rcases Nat.eq_zero_or_pos n with h0 | h0
  · subst h0
    go_enter Tryz.func153, Tryz.ntmps153
    go_wp2
    go_ret
    exact ⟨none, 0, rfl, World.ownsRow_nil _ _ _ _, Below.refl _ _⟩
  · have hrz : ∀ ty, (Builtin.append_ #[22, 3] ty #[.slice none 0 0, .int .i64 (n : Int)]).run Tryz.prog w = _ := fun ty =>
      Lib.run_append_nil_zeros w 22 3 ty 9 i0 _ .i64 .i64 Tryz.underlying22 Tryz.underlying3 hi hz0 n h0 (by omega) (by omega) (by rw [hz2]; omega)
    obtain ⟨G, hG⟩ : ∃ G, G = grownCap w n 0 9 := ⟨_, rfl⟩
    have hGn : n ≤ G := by rw [hG]; exact grownCap_ge w _ _ _
    have hG2 : G ≤ maxLen := by rw [hG]; exact grownCap_le_maxLen w n 0 9 (by unfold maxLen; omega)
    rw [← hG] at hrz
    have HO := Lib.hid (World.ownsRow_made (base := w.heap.size) (e := 9) (size := 1) w.drew (Builtin.zeroCells (.string ⟨#[]⟩ : Value).cells n ++ Builtin.zeroCells (.string ⟨#[]⟩ : Value).cells (G - n)) G (Nat.le_refl _) hG2 (by rw [Array.size_append, size_zeroCells, size_zeroCells]; show n * 1 + (G - n) * 1 = G * 1; omega))
    have h63 : G ≤ 9223372036854775807 := by unfold maxLen at hG2; omega
    have hpos : (n : Int) > 0 := by omega
    clear hG hG2
    go_enter Tryz.func153, Tryz.ntmps153
    go_wp2_with (at_builtin; refine Lib.wpList_append_run _ rfl _ _ _ _ rfl _ _ rfl rfl _ _ (hrz _) ?_)
    go_ret
    exact ⟨_, _, rfl, HO.out, ((Below.refl _ w).drew).alloc (Nat.le_refl _) _⟩

set_option maxHeartbeats 4000000 in
set_option maxRecDepth 100000 in
theorem concatT (w : World) (F : Nat → Prop) (A : Option Addr) (n c : Nat) (ss : List Sg) (hn : n = ss.length) (hb : n ≤ 100000) (ht : (sum ss).length ≤ 100000) (h : VRd w F A (ss.map sgv)) (hs : ∀ s ∈ ss, SgAt w F s) :
    Calls Tryz.prog 128 #[.slice A n c] w fun e w' => ∃ B k c', e = .returned (.slice B k c') ∧ k = (sum ss).length ∧ w'.ownsRow w.heap.size 9 1 (.slice B k c') k (sum ss) ∧ Below w.heap.size w w' := by
  obtain ⟨i0, hi, hz0, hz1, hz2⟩ := info_parts info9
  have hml : (1000000 : Nat) ≤ maxLen := by unfold maxLen; omega
  have HN := Lib.hid hn
  have HT := Lib.hid ht
  have HS := Lib.hid hs
  clear hn hs ht
  go_enter Tryz.func128, Tryz.ntmps128
  go_wp2
  go_loopg [3, 11] n (fun g s3 s11 wr => ∃ (k r : Nat), k ≤ n ∧ n - k ≤ g ∧ s11 = .int .i64 k ∧ wr = w ∧ s3 = .int .i64 r ∧ r ≤ 100000 ∧ r = (sum (ss.take k)).length)
  case atStart => exact ⟨0, 0, Nat.zero_le _, by omega, rfl, rfl, rfl, by omega, by simp [sum]⟩
  case round =>
    obtain ⟨k, r, hk, hg, rfl, hwr, rfl, hr, heq⟩ := hrel
    have hwr := hwr.symm
    subst hwr
    have HE := Lib.hid heq
    clear heq
    by_cases hlt : k < n
    · obtain ⟨s, hs⟩ : ∃ s, ss[k]? = some s := ⟨_, List.getElem?_eq_getElem (by rw [← HN.out]; exact hlt)⟩
      have hs2 : (ss.map sgv)[k]? = some (sgv s) := by rw [List.getElem?_map, hs]; rfl
      obtain ⟨b1, o1, rfl, _, _, hc1⟩ := h (by rw [List.length_map, ← HN.out]; omega)
      have g1 : w.cell? ⟨b1, o1 + k, none⟩ = some (.slice s.A s.vs.length s.c) := hc1 k _ hs2
      have T := Lib.hid (sum_take ss k hs)
      have hl : r + s.vs.length ≤ 100000 := by
        have h1 := sum_take_len ss (k + 1)
        rw [T.out, List.length_append, ← HE.out] at h1
        exact Nat.le_trans h1 HT.out
      clear hc1 hs2 hs
      generalize hm : s.vs.length = m at g1 hl
      have HM := Lib.hid hm
      clear hm
      go_wp2
      go_roundg (n - (k + 1))
      case measure => omega
      case rel =>
        refine ⟨k + 1, r + m, by omega, by omega, by go_num, rfl, by go_num, hl, ?_⟩
        rw [T.out, List.length_append, HE.out, HM.out]
    · have hkn : k = n := by omega
      subst hkn
      go_wp2_with fail
      go_at_call 153
      refine (growT _ r hr).mono ?_
      rintro e w1 ⟨B, c1, rfl, hown0, hB0⟩
      clear hk hg hlt
      go_wp2
      go_loopg [6, 27] k (fun g s6 s27 wr => ∃ (j m : Nat), j ≤ k ∧ k - j ≤ g ∧ s27 = .int .i64 j ∧ m ≤ 100000 ∧ m = (sum (ss.take j)).length ∧ wr.ownsRow w.heap.size 9 1 s6 m (sum (ss.take j)) ∧ Below w.heap.size w wr)
      case atStart => exact ⟨0, 0, Nat.zero_le _, by omega, rfl, by omega, by simp [sum], by simpa [sum] using hown0, hB0⟩
      case round =>
        obtain ⟨j, m, hj, hg, rfl, hm, hme, hown, hB⟩ := hrel
        have hz := hB.size
        have ME := Lib.hid hme
        clear hme hown0 hB0
        by_cases hlt : j < k
        · obtain ⟨s, hs⟩ : ∃ s, ss[j]? = some s := ⟨_, List.getElem?_eq_getElem (by rw [← HN.out]; exact hlt)⟩
          have hs2 : (ss.map sgv)[j]? = some (sgv s) := by rw [List.getElem?_map, hs]; rfl
          obtain ⟨b1, o1, rfl, _, _, hc1⟩ := (h.below hB) (by rw [List.length_map, ← HN.out]; omega)
          have g1 : wr.cell? ⟨b1, o1 + j, none⟩ = some (.slice s.A s.vs.length s.c) := hc1 j _ hs2
          have T := Lib.hid (sum_take ss j hs)
          have hl : m + s.vs.length ≤ 100000 := by
            have h1 := sum_take_len ss (j + 1)
            rw [T.out, List.length_append, ← ME.out] at h1
            exact Nat.le_trans h1 HT.out
          have HSG := Lib.hid ((HS.out s (List.mem_of_getElem? hs)).below hB)
          clear hc1 hs2 hs
          rcases hA : s.A with _ | ad
          · have hc0 : s.c = 0 := HSG.out.nil hA
            have hv0 : s.vs = [] := by
              rcases Nat.eq_zero_or_pos s.vs.length with h0 | h0
              · exact List.eq_nil_of_length_eq_zero h0
              · obtain ⟨_, _, e, _⟩ := HSG.out.row h0
                rw [hA] at e; cases e
            rw [hA, hc0, hv0] at g1
            have T2 : Hid (sum (ss.take (j + 1)) = sum (ss.take j)) := Lib.hid (by rw [T.out, hv0, List.append_nil])
            clear hA hc0 hv0 hl
            go_wp2_with (at_builtin; refine wpList_append_own_none rfl (.tmp 31) (.tmp 32) 22 rfl w.heap.size 9 i0 1 Tryz.underlying22 hi _ _ _ rfl hown rfl ?_)
            go_roundg (k - (j + 1))
            case measure => omega
            case rel => exact ⟨j + 1, m, by omega, by omega, by go_num, hm, by rw [T2.out]; exact ME.out, by rw [T2.out]; exact hown, hB⟩
          · have HC := Lib.hid (HSG.out.row.cells hA)
            have HO := Lib.hid HSG.out.one
            rw [hA] at g1
            clear hA
            obtain ⟨x, hx⟩ : ∃ x, s.vs.length = x := ⟨_, rfl⟩
            have HX := Lib.hid hx
            rw [hx] at g1 hl
            clear hx
            go_wp2_with (at_builtin; refine wpList_append_own _ rfl (.tmp 31) (.tmp 32) 22 rfl w.heap.size 9 i0 (.string ⟨#[]⟩) 1 16 Tryz.underlying22 hi hz0 hz1 hz2 rfl (by decide) _ _ _ rfl hown ad x s.c s.vs rfl (by rw [HX.out]; omega) HC.out HO.out (by omega) (by omega) hz ?_; intro v1 w1 hown1 hgrow1 _; have hB1 := hB.grown hgrow1 hz (fun j hj => (hown.lt j hj).1))
            have HOWN := Lib.hid hown1
            have HB1 := Lib.hid hB1
            clear hown1 hB1 hgrow1 hown hB
            go_roundg (k - (j + 1))
            case measure => omega
            case rel => exact ⟨j + 1, m + x, by omega, by omega, by go_num, hl, by rw [T.out, List.length_append, ← ME.out, HX.out], by rw [T.out]; exact HOWN.out, HB1.out⟩
        · have hjk : j = k := by omega
          subst hjk
          have E : Hid (ss.take j = ss) := Lib.hid (by rw [HN.out, List.take_length])
          obtain ⟨B', c', rfl, _, _⟩ := own_form' hown
          go_wp2
          go_ret
          rw [E.out] at hown ME
          exact ⟨B', m, c', rfl, ME.out, hown, hB⟩

end Go.Proofs.YtmknbakfjhjfmaaGreatDoor.pce

/-! Pieces: New, Lines, Line, Text, Compact. -/
namespace Go.Proofs.YtmknbakfjhjfmaaGreatDoor.pce
open Go.RowKit Go.Lib
set_option linter.unusedVariables false
set_option linter.unusedSimpArgs false
set_option linter.unnecessarySimpa false
set_option linter.unusedSectionVars false

/-- A piece as one of the slices that are put together. -/
def psg (p : Pc) : Sg := ⟨some ⟨p.blk, p.off, none⟩, p.l.length, p.l.map Value.string⟩
theorem psg_sgv (ps : List Pc) : (ps.map psg).map sgv = ps.map pv := by
  rw [List.map_map]
  refine List.map_congr_left fun p _ => ?_
  simp [psg, sgv, pv]
theorem psg_sum (ps : List Pc) : sum (ps.map psg) = (texts ps).map Value.string := by
  induction ps with
  | nil => rfl
  | cons p r ih =>
    rw [texts_cons, List.map_append, ← ih]
    simp [sum, psg]
/-- All texts of a list of pieces, put together. -/
theorem concat_pcs (w : World) (F : Nat → Prop) (A : Option Addr) (n c : Nat) (ps : List Pc) (h : Pcs w F A n c ps) (ht : (texts ps).length ≤ 100000) :
    Calls Tryz.prog 128 #[.slice A n c] w fun e w' => ∃ B k c', e = .returned (.slice B k c') ∧ k = (texts ps).length ∧ w'.ownsRow w.heap.size 9 1 (.slice B k c') k ((texts ps).map Value.string) ∧ Below w.heap.size w w' := by
  have hl := texts_len h.full
  refine (concatT w F A n c (ps.map psg) (by rw [List.length_map]; exact h.len) (by have := h.len; omega) (by rw [psg_sum, List.length_map]; exact ht) (by rw [psg_sgv]; exact h.row) ?_).mono ?_
  · intro s hs
    obtain ⟨p, hp, rfl⟩ := List.mem_map.1 hs
    exact ⟨fun h => (by cases h), (h.each p hp).vrd, one_strs _⟩
  · rintro e w' ⟨B, k, c', rfl, hk, hown, hB⟩
    rw [psg_sum] at hk hown
    exact ⟨B, k, c', rfl, by rw [hk, List.length_map], hown, hB⟩

/-- A list of texts in a row of its own, behind what was there. -/
def Row (w : World) (zs : List ByteArray) (v : Value) (w' : World) : Prop :=
  ∃ B k c, v = .slice B k c ∧ k = zs.length ∧ w'.ownsRow w.heap.size 9 1 (.slice B k c) k (zs.map Value.string) ∧ Below w.heap.size w w'

/-- The line of a number. -/
def lineAt (L : List ByteArray) (i : Int) : Option ByteArray := if 1 ≤ i then L[(i - 1).toNat]? else none
theorem line_list (L : List ByteArray) (i : Int) : (L.take i.toNat).drop (i - 1).toNat = (lineAt L i).toList := by
  unfold lineAt
  split
  · rename_i h
    obtain ⟨k, hk⟩ : ∃ k : Nat, (i - 1).toNat = k := ⟨_, rfl⟩
    rw [hk, show i.toNat = k + 1 by omega]
    cases e : L[k]? with
    | none =>
      have : L.length ≤ k := List.getElem?_eq_none_iff.1 e
      rw [List.drop_of_length_le (by rw [List.length_take]; omega)]; rfl
    | some s =>
      obtain ⟨hl, rfl⟩ := List.getElem?_eq_some_iff.1 e
      rw [List.take_succ_eq_append_getElem hl, List.drop_append_of_le_length (by rw [List.length_take]; omega), List.drop_of_length_le (by rw [List.length_take]; omega)]; rfl
  · rw [show i.toNat = 0 by omega]; simp
/-- What Line tells. -/
def told (o : Option ByteArray) : Ending := .returned (.tuple #[.string (o.getD ⟨#[]⟩), .bool o.isSome])

end Go.Proofs.YtmknbakfjhjfmaaGreatDoor.pce

/-! Pieces: Clone, New, against, Splice, Compact. -/
namespace Go.Proofs.YtmknbakfjhjfmaaGreatDoor.pce
open Go.RowKit Go.Lib
set_option linter.unusedVariables false
set_option linter.unusedSimpArgs false
set_option linter.unnecessarySimpa false
set_option linter.unusedSectionVars false

set_option maxHeartbeats 1000000 in
set_option maxRecDepth 100000 in
theorem clone_is (w : World) (A : Option Addr) (n c : Nat) (zs : List ByteArray) (hn : n = zs.length) (hb : n ≤ 100000) (hA : A = none → c = 0) (h : SRd w w.heap.size A zs) :
    Calls Tryz.prog 105 #[.slice A n c] w fun e w' => ∃ x, e = .returned x ∧ Row w zs x w' := by
  rcases A with _ | ad
  · obtain rfl : c = 0 := hA rfl
    obtain rfl : zs = [] := by
      rcases Nat.eq_zero_or_pos zs.length with h0 | h0
      · exact List.eq_nil_of_length_eq_zero h0
      · obtain ⟨_, _, e, _⟩ := h h0
        cases e
    obtain rfl : n = 0 := hn
    clear h hA
    have q22 : ∀ (w : World) (a : Option Addr) (n c n' c' : Nat), (binOp .eql 22 (.slice a n c) (.slice none n' c')).run Tryz.prog w = .ok (.bool a.isNone) w := fun w a n c n' c' => Lib.run_eql_slice_nil w _ _ a n c n' c' Tryz.underlying22
    go_enter Tryz.func105, Tryz.ntmps105
    go_wp2
    go_ret
    exact ⟨_, rfl, none, 0, 0, rfl, rfl, World.ownsRow_nil _ _ _ _, Below.refl _ _⟩
  · have HN := Lib.hid hn
    clear hn
    have hL := World.ownsRow_lit (base := w.heap.size) (e := 9) (size := 1) w #[] 0 (Nat.le_refl _) (Nat.zero_le _) rfl
    have q22 : ∀ (w : World) (a : Option Addr) (n c n' c' : Nat), (binOp .eql 22 (.slice a n c) (.slice none n' c')).run Tryz.prog w = .ok (.bool a.isNone) w := fun w a n c n' c' => Lib.run_eql_slice_nil w _ _ a n c n' c' Tryz.underlying22
    go_enter Tryz.func105, Tryz.ntmps105
    go_wp2_with (at_builtin; refine wpList_append_list rfl (.tmp 5) (.tmp 6) rfl w.heap.size _ 0 [] rfl hL (some ad) n c _ zs rfl HN.out hA (h.alloc (Nat.le_refl _) _) (by omega) (by simp) ?_; intro v1 w1 hown1 hgrow1; obtain ⟨A1, c1, rfl⟩ := own_form hown1)
    have hB1 := ((Below.refl w.heap.size w).alloc (Nat.le_refl _) (.cells #[] 9)).grown hgrow1 (by simp) (fun k hk => (hL.lt k hk).1)
    go_ret
    rw [Nat.zero_add] at hown1
    exact ⟨_, rfl, A1, n, c1, by simp, HN.out, by simpa using hown1, hB1⟩

/-- The error that stands against a splice of a table of so many lines. -/
def splE (L : Nat) (at_ del : Int) (ins : List ByteArray) : Int :=
  if at_ < 0 ∨ del < 0 ∨ (L : Int) - at_ < del then 2 else if chk ins ≠ 0 then chk ins else if 2000 < (L : Int) - del + ins.length then 3 else 0
theorem splE_zero {L : Nat} {a d : Int} {ins : List ByteArray} (h : splE L a d ins = 0) : 0 ≤ a ∧ 0 ≤ d ∧ a + d ≤ L ∧ Fine ins ∧ (L : Int) - d + ins.length ≤ 2000 := by
  unfold splE at h
  split at h
  · cases h
  · split at h
    · rename_i h2; exact absurd h h2
    · split at h
      · cases h
      · rename_i h1 h2 h3
        exact ⟨by omega, by omega, by omega, fine_chk.1 (by simpa using h2), by omega⟩

/-- The three lists of pieces that a splice puts together. -/
theorem sg_pcs {w : World} {F : Nat → Prop} {A : Option Addr} {k c : Nat} {ps : List Pc} (h : Pcs w F A k c ps) : SgAt w F ⟨A, c, ps.map pv⟩ := ⟨h.nil, h.row, pv_one ps⟩

theorem three_text (ps : List Pc) (a d b : Nat) (ins : List ByteArray) : texts (btw 0 a ps ++ lone b 0 ins ++ btw ((a : Int) + d) ((texts ps).length : Nat) ps) = spl (texts ps) a d ins := by
  rw [texts_append, texts_append, btw_text, btw_text, lone_text]
  unfold spl
  rw [show ((a : Int) + d).toNat = a + d by omega, Int.toNat_natCast, Int.toNat_natCast, List.take_length]
  rfl
/-- How many pieces lines in one piece have. -/
def cnt (zs : List ByteArray) : Nat := if zs = [] then 0 else 1
end Go.Proofs.YtmknbakfjhjfmaaGreatDoor.pce

/-! Pieces: the document's Lines and Splice of a list, walked. -/
namespace Go.Proofs.YtmknbakfjhjfmaaGreatDoor.pce
open Go.RowKit Go.Lib
set_option linter.unusedVariables false
set_option linter.unusedSimpArgs false
set_option linter.unnecessarySimpa false
set_option linter.unusedSectionVars false

/-- A list of texts behind A, in a block of F. -/
structure Lst (w : World) (F : Nat → Prop) (A : Option Addr) (n c : Nat) (zs : List ByteArray) : Prop where
  len : n = zs.length
  room : n ≤ c
  nil : A = none → c = 0
  row : VRd w F A (zs.map Value.string)
section
variable {w w' : World} {F F' : Nat → Prop} {A : Option Addr} {n c : Nat} {zs : List ByteArray} {v : Value}
theorem Lst.keep (h : Lst w F A n c zs) (hk : ∀ b, F b → b < w.heap.size → w'.heap[b]? = w.heap[b]?) (hs : w.heap.size ≤ w'.heap.size) : Lst w' F A n c zs := ⟨h.len, h.room, h.nil, h.row.keep hk hs⟩
theorem Lst.mono (h : Lst w F A n c zs) (hF : ∀ b, F b → b < w.heap.size → F' b) : Lst w F' A n c zs := ⟨h.len, h.room, h.nil, h.row.mono hF⟩
theorem Lst.below (h : Lst w F A n c zs) (hB : Below w.heap.size w w') : Lst w' F A n c zs := ⟨h.len, h.room, h.nil, h.row.below hB⟩
theorem Lst.srd (h : Lst w F A n c zs) : SRd w w.heap.size A zs := h.row.srd
theorem Row.lst (h : Row w zs v w') : ∃ A n c, v = .slice A n c ∧ Lst w' (w.heap.size ≤ ·) A n c zs ∧ Below w.heap.size w w' := by
  obtain ⟨B, k, c, rfl, hk, hown, hB⟩ := h
  obtain ⟨_, _, hv, hnil, hkc⟩ := own_form' hown
  injection hv with e1 e2 e3
  subst e1 e3
  exact ⟨B, k, c, rfl, ⟨hk, hkc, hnil, VRd.of_own hown⟩, hB⟩
end

theorem size9 (W : World) : (Go.sizeOf 9).run Tryz.prog W = .ok 1 W := by kernel_rfl
theorem elemStr : Tryz.prog.elem 22 = 9 := by kernel_rfl
theorem add_zero_addr (a : Addr) : a.add 0 = a := by cases a; rfl
theorem head_slice (A : Option Addr) (n c m : Nat) (h : m ≤ c) (W : World) :
    (Instr.slice 22 (.slice A n c) none (some (.int .i64 (m : Int))) none).run Tryz.prog W = .ok (.slice A m c) W := by
  have hu : Tryz.prog.underlying 22 = some (.slice (Tryz.prog.elem 22)) := by rw [elemStr]; exact Tryz.underlying22
  rw [run_slice_h (P := Tryz.prog) W 22 A n c hu .i64 (m : Int) (by omega) (by omega), elemStr, size9]
  simp only [Result.andThen, sliced, Int.toNat_natCast]
  cases A with
  | none => simp
  | some a => simp [add_zero_addr]
/-- Where a tail lies. -/
def tailA (A : Option Addr) (c m : Nat) : Option Addr := if c = m then A else A.map (·.add (m * 1))
theorem tail_slice (A : Option Addr) (n c m k : Nat) (h : n = m + k) (W : World) :
    (Instr.slice 22 (.slice A n c) (some (.int .i64 (m : Int))) none none).run Tryz.prog W = .ok (.slice (tailA A c m) k (c - m)) W := by
  have hu : Tryz.prog.underlying 22 = some (.slice (Tryz.prog.elem 22)) := by rw [elemStr]; exact Tryz.underlying22
  rw [run_slice_l (P := Tryz.prog) W 22 A n c hu .i64 (m : Int) (by omega) (by omega), elemStr, size9]
  simp only [Result.andThen, sliced, Int.toNat_natCast, tailA]
  rw [show n - m = k by omega]
theorem srd_head {w : World} {n₀ : Nat} {A : Option Addr} {xs : List ByteArray} (h : SRd w n₀ A xs) (k : Nat) : SRd w n₀ A (xs.take k) := fun hn => by
  rw [List.length_take] at hn
  obtain ⟨b, off, e, hb, hc⟩ := h (by omega)
  refine ⟨b, off, e, hb, fun j hj => ?_⟩
  rw [List.length_take] at hj
  rw [hc j (by omega)]
  simp [List.getD, List.getElem?_take, show j < k by omega]
theorem srd_tail {w : World} {n₀ : Nat} {A : Option Addr} {xs : List ByteArray} {c : Nat} (h : SRd w n₀ A xs) (m : Nat) (hc : xs.length ≤ c) : SRd w n₀ (tailA A c m) (xs.drop m) := fun hn => by
  rw [List.length_drop] at hn
  obtain ⟨b, off, rfl, hb, hcell⟩ := h (by omega)
  unfold tailA
  rw [if_neg (by omega)]
  refine ⟨b, off + m, by simp [Addr.add], hb, fun j hj => ?_⟩
  rw [List.length_drop] at hj
  have := hcell (m + j) (by omega)
  rw [← Nat.add_assoc] at this
  rw [this]
  simp [List.getD, List.getElem?_drop]
theorem tail_nil {A : Option Addr} {c m : Nat} (h : A = none → c = 0) : tailA A c m = none → c - m = 0 := fun e => by
  unfold tailA at e
  split at e
  · omega
  · have : A = none := by cases A <;> simp_all
    have := h this; omega

theorem step_append_texts {w : World} {ops : Array Oper} {o : Oper} {a : Act} {K : Act → World → Prop} {Q : Exit → Act → World → Prop} {E : Prop} (hgd : o.guard = none) (s x : Operand)
    (ho : o.op = .call { callee := .builtin .append, args := #[s, x], argTypes := #[22, 22] })
    (base : Nat) (v : Value) (n : Nat) (xs : List Value) (hs : a.eval s = v) (hown : w.ownsRow base 9 1 v n xs)
    (A : Option Addr) (m c n₀ : Nat) (zs : List ByteArray) (hx : a.eval x = .slice A m c) (hm : m = zs.length) (hA : A = none → c = 0) (hr : SRd w n₀ A zs)
    (h63 : n + m ≤ 1000000) (hbase : base ≤ w.heap.size)
    (h : ∀ v' w', w'.ownsRow base 9 1 v' (n + m) (xs ++ zs.map Value.string) → w.grownBy w' v.ownBlock → K (a.put o.dst v') w') :
    if Region.wanted o (yielded ops a.tmps) = true then Oper.wp Tryz.prog o a w K Q else E := by
  have hw : Region.wanted o (yielded ops a.tmps) = true := by simp [Region.wanted, hgd]
  rw [if_pos hw]
  obtain ⟨i0, hi, hz0, hz1, hz2⟩ := info_parts info9
  have hml : (1000000 : Nat) ≤ maxLen := by unfold maxLen; omega
  rcases A with _ | ad
  · obtain rfl : c = 0 := hA rfl
    obtain rfl : m = 0 := by
      rcases Nat.eq_zero_or_pos m with h0 | h0
      · exact h0
      · obtain ⟨_, _, h, _⟩ := hr (by omega)
        cases h
    obtain rfl : zs = [] := List.eq_nil_of_length_eq_zero hm.symm
    have hrun := run_append_owned_none (P := Tryz.prog) (w := w) base 22 o.type 9 i0 1 Tryz.underlying22 hi v n xs hown
    unfold Oper.wp execOp
    simp only [ho, resolve, invoke, builtin, Sem.run_bind, Sem.run_pure, Result.andThen_ok, List.map_toArray, List.map_cons, List.map_nil, hs, hx, hrun]
    exact h v w (by simpa using hown) (World.grownBy.refl w _)
  · obtain ⟨v', w', hrun, h2, h3, _⟩ := run_append_own (P := Tryz.prog) w base 22 o.type 9 i0 (.string ⟨#[]⟩) 1 16 Tryz.underlying22 hi hz0 hz1 hz2 rfl (by decide) v n xs hown ad m c (zs.map Value.string) (by rw [List.length_map]; omega) hr.cells (one_strs _) (by omega) (by omega) hbase
    unfold Oper.wp execOp
    simp only [ho, resolve, invoke, builtin, Sem.run_bind, Sem.run_pure, Result.andThen_ok, List.map_toArray, List.map_cons, List.map_nil, hs, hx, hrun]
    exact h v' w' h2 h3
end Go.Proofs.YtmknbakfjhjfmaaGreatDoor.pce

/-! Pieces: the document's Splice of a list, walked. -/
namespace Go.Proofs.YtmknbakfjhjfmaaGreatDoor.pce
open Go.RowKit Go.Lib
set_option linter.unusedVariables false
set_option linter.unusedSimpArgs false
set_option linter.unnecessarySimpa false
set_option linter.unusedSectionVars false

theorem owns_drew {w : World} {base n : Nat} {e : TypeId} {v : Value} {xs : List Value} (h : w.ownsRow base e 1 v n xs) : w.drew.ownsRow base e 1 v n xs := h
def More (p : Nat) (wb W : World) : Prop := Below p wb W
theorem More.to {p : Nat} {wb W : World} (h : More p wb W) : Below p wb W := h
theorem eq_two {k : Int} (h : k = 2) : (k == 2) = true := by subst h; rfl

/-- An error, or the new list. -/
def MoreSays (w : World) (L ins : List ByteArray) (a d n m : Nat) (k : Int) (e : Ending) (w' : World) : Prop := Below w.heap.size w w' ∧
  (((k ≠ 0 ∨ 2000 < n - d + m) ∧ e = .returned (.tuple #[.slice none 0 0, .int .i64 3])) ∨ (k = 0 ∧ n - d + m ≤ 2000 ∧ ∃ v, e = .returned (.tuple #[v, .int .i64 0]) ∧ Row w (spl L a d ins) v w'))
end Go.Proofs.YtmknbakfjhjfmaaGreatDoor.pce

/-! Pieces: a list of splices that came in; the law's Much. -/
namespace Go.Proofs.YtmknbakfjhjfmaaGreatDoor.pce
open Go.RowKit Go.Lib
set_option linter.unusedVariables false
set_option linter.unusedSimpArgs false
set_option linter.unnecessarySimpa false
set_option linter.unusedSectionVars false

/-- A splice: where, how many go, what is laid there, and where that stands. -/
structure Ct where
  a : Int
  d : Int
  A : Option Addr
  c : Nat
  ins : List ByteArray
def Ct.cells (t : Ct) : List Value := [.int .i64 t.a, .int .i64 t.d, .slice t.A t.ins.length t.c]
def flat (ts : List Ct) : List Value := ts.flatMap Ct.cells
theorem flat_length (ts : List Ct) : (flat ts).length = ts.length * 3 := by
  induction ts with
  | nil => rfl
  | cons d ds ih => simp only [flat, List.flatMap_cons, List.length_append] at ih ⊢; rw [ih, List.length_cons]; simp [Ct.cells]; omega
theorem flat_get : ∀ (l : List Ct) (i j : Nat) (d : Ct), l[i]? = some d → j < 3 → (flat l)[i * 3 + j]? = d.cells[j]?
  | e :: ds, 0, j, d, h, hj => by
    simp at h; subst h
    simp only [flat, List.flatMap_cons]
    rw [List.getElem?_append_left (by simp [Ct.cells]; omega)]
    congr 1; omega
  | e :: ds, i + 1, j, d, h, hj => by
    have ih := flat_get ds i j d (by simpa using h) hj
    simp only [flat, List.flatMap_cons] at ih ⊢
    rw [List.getElem?_append_right (by simp [Ct.cells]; omega)]
    rw [← ih]
    congr 1
    simp [Ct.cells]; omega
structure CtOk (w : World) (F : Nat → Prop) (t : Ct) : Prop where
  a1 : -9223372036854775808 ≤ t.a
  a2 : t.a ≤ 9223372036854775807
  d1 : -9223372036854775808 ≤ t.d
  d2 : t.d ≤ 9223372036854775807
  lst : Lst w F t.A t.ins.length t.c t.ins
  size : ∀ z ∈ t.ins, z.size ≤ maxLen
  few : t.ins.length ≤ maxLen
/-- The splices ts behind A. -/
structure Cuts (w : World) (F : Nat → Prop) (A : Option Addr) (ts : List Ct) : Prop where
  row : VRd w F A (flat ts)
  each : ∀ t ∈ ts, CtOk w F t
section
variable {w w' : World} {F F' : Nat → Prop} {A : Option Addr} {ts : List Ct} {t : Ct}
theorem CtOk.keep (h : CtOk w F t) (hk : ∀ b, F b → b < w.heap.size → w'.heap[b]? = w.heap[b]?) (hs : w.heap.size ≤ w'.heap.size) : CtOk w' F t := ⟨h.a1, h.a2, h.d1, h.d2, h.lst.keep hk hs, h.size, h.few⟩
theorem Cuts.keep (h : Cuts w F A ts) (hk : ∀ b, F b → b < w.heap.size → w'.heap[b]? = w.heap[b]?) (hs : w.heap.size ≤ w'.heap.size) : Cuts w' F A ts := ⟨h.row.keep hk hs, fun t ht => (h.each t ht).keep hk hs⟩
theorem Cuts.below (h : Cuts w F A ts) (hB : Below w.heap.size w w') : Cuts w' F A ts := h.keep (fun b _ hb => hB.block b hb) hB.size
/-- The cells of one of them. -/
theorem Cuts.at (h : Cuts w F A ts) {i : Nat} (hi : ts[i]? = some t) : ∃ b off, A = some ⟨b, off, none⟩ ∧ w.cell? ⟨b, off + i * 3, none⟩ = some (.int .i64 t.a) ∧ w.cell? ⟨b, off + i * 3 + 1, none⟩ = some (.int .i64 t.d) ∧ w.cell? ⟨b, off + i * 3 + 2, none⟩ = some (.slice t.A t.ins.length t.c) := by
  have hl := (List.getElem?_eq_some_iff.1 hi).1
  obtain ⟨b, off, e, _, _, hc⟩ := h.row (by rw [flat_length]; omega)
  refine ⟨b, off, e, ?_, ?_, ?_⟩
  · have := hc (i * 3 + 0) _ (by rw [flat_get ts i 0 t hi (by omega)]; rfl)
    simpa using this
  · have := hc (i * 3 + 1) _ (by rw [flat_get ts i 1 t hi (by omega)]; rfl)
    rwa [← Nat.add_assoc] at this
  · have := hc (i * 3 + 2) _ (by rw [flat_get ts i 2 t hi (by omega)]; rfl)
    rwa [← Nat.add_assoc] at this
end

/-- Yes; or no, and they are few. -/
def MuchSays (ts : List Ct) (w : World) (e : Ending) (w' : World) : Prop :=
  (e = .returned (.bool true) ∨ (e = .returned (.bool false) ∧ ts.length ≤ 60 ∧ ∀ t ∈ ts, t.ins.length ≤ 2100 ∧ tot t.ins ≤ 5000)) ∧ w = w'

end Go.Proofs.YtmknbakfjhjfmaaGreatDoor.pce

/-! PiecesBack, walked. -/
namespace Go.Proofs.YtmknbakfjhjfmaaGreatDoor.pce
open Go.RowKit Go.Lib
set_option linter.unusedVariables false
set_option linter.unusedSimpArgs false
set_option linter.unnecessarySimpa false
set_option linter.unusedSectionVars false

abbrev Ls (w : World) (A : Option Addr) (n c : Nat) (zs : List ByteArray) : Prop := Lst w (fun _ => True) A n c zs
theorem Lst.any {w : World} {F : Nat → Prop} {A : Option Addr} {n c : Nat} {zs : List ByteArray} (h : Lst w F A n c zs) : Ls w A n c zs := h.mono fun _ _ _ => trivial
theorem Lst.drew {w : World} {F : Nat → Prop} {A : Option Addr} {n c : Nat} {zs : List ByteArray} (h : Lst w F A n c zs) : Lst w.drew F A n c zs := ⟨h.len, h.room, h.nil, h.row⟩

theorem held4' {P Q R : Prop} {n : Nat} {wb W : World} (h : P ∧ Q ∧ R ∧ More n wb W) : More n wb W := h.2.2.2

end Go.Proofs.YtmknbakfjhjfmaaGreatDoor.pce

/-! Pieces: the law's examples come out. -/
namespace Go.Proofs.YtmknbakfjhjfmaaGreatDoor.pce
open Go.RowKit Go.Lib
set_option linter.unusedVariables false
set_option linter.unusedSimpArgs false
set_option linter.unnecessarySimpa false
set_option linter.unusedSectionVars false

/-- A list that is written out. -/
theorem lit_srd (w : World) (zs : List ByteArray) : SRd (w.alloc (.cells (zs.map Value.string).toArray 9)) (w.alloc (.cells (zs.map Value.string).toArray 9)).heap.size (some ⟨w.heap.size, 0, none⟩) zs := by
  intro hn
  refine ⟨_, _, rfl, by simp, fun j hj => ?_⟩
  have hb := heap_alloc_new w (.cells (zs.map Value.string).toArray 9)
  rw [cell_of_row _ _ _ _ _ _ hb]
  simp [List.getD, List.getElem?_eq_getElem hj]
abbrev La : ByteArray := ⟨#[97]⟩
abbrev Lb : ByteArray := ⟨#[98]⟩
abbrev Lc : ByteArray := ⟨#[99]⟩
abbrev Lx : ByteArray := ⟨#[120]⟩
abbrev Ly : ByteArray := ⟨#[121]⟩
theorem fine_abc : Fine [La, Lb, Lc] := fine_chk.1 (by decide)
theorem fine_xy : Fine [Lx, Ly] := fine_chk.1 (by decide)

end Go.Proofs.YtmknbakfjhjfmaaGreatDoor.pce
