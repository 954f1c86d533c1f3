/- Pieces: lists of texts cut in pieces, as plain lists and numbers. Nothing of the program is used. -/
namespace Go.Proofs.Ytdbeedhedjhamaa.pce
set_option linter.unusedVariables false
set_option linter.unusedSimpArgs false
set_option linter.unnecessarySimpa false
set_option linter.unusedSectionVars false

/-- A piece: where it stands, and its texts. -/
structure Pc where
  blk : Nat
  off : Nat
  l : List ByteArray

/-- What a piece has from low up to high. -/
def Pc.cut (p : Pc) (low high : Nat) : Pc := ⟨p.blk, p.off + low, (p.l.take high).drop low⟩
def texts (ps : List Pc) : List ByteArray := ps.flatMap (·.l)
def Full (ps : List Pc) : Prop := ∀ p ∈ ps, p.l ≠ []

/-- One round: what of a piece stands behind the first a texts, up to the one numbered u. -/
def one (a u : Int) (p : Pc) : List Pc := if max a 0 < min u p.l.length then [p.cut (max a 0).toNat (min u p.l.length).toNat] else []
def btw : Int → Int → List Pc → List Pc
  | _, _, [] => []
  | a, u, p :: r => one a u p ++ btw (a - p.l.length) (u - p.l.length) r

theorem texts_nil : texts [] = [] := rfl
theorem texts_cons (p : Pc) (r : List Pc) : texts (p :: r) = p.l ++ texts r := by simp [texts]
theorem texts_append (a b : List Pc) : texts (a ++ b) = texts a ++ texts b := by simp [texts]
theorem texts_one (p : Pc) : texts [p] = p.l := by simp [texts]
theorem Full.nil : Full [] := fun _ h => by cases h
theorem Full.append {a b : List Pc} (h : Full a) (k : Full b) : Full (a ++ b) := fun p hp => (List.mem_append.1 hp).elim (h p) (k p)
theorem Full.one {p : Pc} (h : p.l ≠ []) : Full [p] := fun q hq => by rw [List.mem_singleton.1 hq]; exact h
theorem Full.cons {p : Pc} {r : List Pc} (h : Full (p :: r)) : p.l ≠ [] ∧ Full r := ⟨h p (by simp), fun q hq => h q (by simp [hq])⟩
theorem Full.take {ps : List Pc} (h : Full ps) (k : Nat) : Full (ps.take k) := fun p hp => h p (List.mem_of_mem_take hp)

theorem cut_len (p : Pc) {low high : Nat} (h1 : low ≤ high) (h2 : high ≤ p.l.length) : (p.cut low high).l.length = high - low := by
  simp only [Pc.cut, List.length_drop, List.length_take]; omega
theorem one_text (a u : Int) (p : Pc) : texts (one a u p) = (p.l.take u.toNat).drop a.toNat := by
  unfold one
  split
  · rename_i h
    rw [texts_one]
    simp only [Pc.cut]
    rw [show (max a 0).toNat = a.toNat by omega]
    by_cases hu : u ≤ p.l.length
    · rw [show (min u p.l.length).toNat = u.toNat by omega]
    · rw [show (min u (p.l.length : Int)).toNat = p.l.length by omega, List.take_length, List.take_of_length_le (by omega)]
  · rename_i h
    rw [texts_nil]
    symm
    rw [List.drop_eq_nil_iff, List.length_take]
    omega
theorem one_full (a u : Int) (p : Pc) : Full (one a u p) := by
  unfold one
  split
  · rename_i h
    refine Full.one fun e => ?_
    have := congrArg List.length e
    rw [cut_len p (by omega) (by omega)] at this
    simp at this
    omega
  · exact Full.nil
theorem one_len (a u : Int) (p : Pc) : (one a u p).length ≤ 1 := by unfold one; split <;> simp

theorem btw_nil (a u : Int) : btw a u [] = [] := rfl
theorem btw_cons (a u : Int) (p : Pc) (r : List Pc) : btw a u (p :: r) = one a u p ++ btw (a - p.l.length) (u - p.l.length) r := rfl
theorem btw_text : ∀ (ps : List Pc) (a u : Int), texts (btw a u ps) = ((texts ps).take u.toNat).drop a.toNat
  | [], a, u => by simp [btw, texts]
  | p :: r, a, u => by
    rw [btw_cons, texts_append, one_text, btw_text r, texts_cons]
    rw [show (u - (p.l.length : Int)).toNat = u.toNat - p.l.length by omega, show (a - (p.l.length : Int)).toNat = a.toNat - p.l.length by omega]
    rw [List.take_append, List.drop_append, List.length_take]
    by_cases hu : u.toNat ≤ p.l.length
    · rw [show u.toNat - p.l.length = 0 by omega]; simp
    · rw [show min u.toNat p.l.length = p.l.length by omega]
theorem btw_full : ∀ (ps : List Pc) (a u : Int), Full (btw a u ps)
  | [], a, u => Full.nil
  | p :: r, a, u => (one_full a u p).append (btw_full r _ _)
theorem btw_len : ∀ (ps : List Pc) (a u : Int), (btw a u ps).length ≤ ps.length
  | [], a, u => by simp [btw]
  | p :: r, a, u => by
    rw [btw_cons, List.length_append, List.length_cons]
    have := one_len a u p; have := btw_len r (a - p.l.length) (u - p.l.length); omega
theorem btw_none : ∀ (ps : List Pc) (a u : Int), u ≤ 0 → btw a u ps = []
  | [], a, u, _ => rfl
  | p :: r, a, u, h => by
    rw [btw_cons, btw_none r _ _ (by omega)]
    unfold one
    rw [if_neg (by omega)]; rfl
/-- Two stretches, one behind the other, have at most one piece more than there are. -/
theorem btw_two : ∀ (ps : List Pc) (a u b v : Int), u ≤ b → (btw a u ps).length + (btw b v ps).length ≤ ps.length + 1
  | [], a, u, b, v, _ => by simp [btw]
  | p :: r, a, u, b, v, h => by
    by_cases hu : u ≤ 0
    · rw [btw_none _ a u hu]
      have := btw_len (p :: r) b v
      simp only [List.length_nil]; omega
    · rw [btw_cons, btw_cons, List.length_append, List.length_append, List.length_cons]
      have h1 := one_len a u p
      have h2 := one_len b v p
      by_cases hb : b < p.l.length
      · rw [btw_none r _ (u - p.l.length) (by omega)]
        have := btw_len r (b - p.l.length) (v - p.l.length)
        simp only [List.length_nil]; omega
      · have e : one b v p = [] := by unfold one; rw [if_neg (by omega)]
        rw [e]
        have := btw_two r (a - p.l.length) (u - p.l.length) (b - p.l.length) (v - p.l.length) (by omega)
        simp only [List.length_nil]; omega

theorem texts_len : ∀ {ps : List Pc}, Full ps → ps.length ≤ (texts ps).length
  | [], _ => by simp
  | p :: r, h => by
    have h1 := h.cons.1
    have := texts_len h.cons.2
    have : 0 < p.l.length := List.length_pos_iff.2 h1
    rw [texts_cons, List.length_append, List.length_cons]; omega
theorem texts_zero {ps : List Pc} (h : Full ps) : texts ps = [] ↔ ps = [] := by
  constructor
  · intro e
    have := texts_len h
    rw [e] at this
    exact List.eq_nil_of_length_eq_zero (by simpa using this)
  · rintro rfl; rfl
theorem texts_take (ps : List Pc) (k : Nat) {p : Pc} (h : ps[k]? = some p) : texts (ps.take (k + 1)) = texts (ps.take k) ++ p.l := by
  obtain ⟨hk, rfl⟩ := List.getElem?_eq_some_iff.1 h
  rw [List.take_succ_eq_append_getElem hk, texts_append, texts_one]
theorem texts_take_len (ps : List Pc) (k : Nat) : (texts (ps.take k)).length ≤ (texts ps).length := by
  conv => rhs; rw [← List.take_append_drop k ps, texts_append, List.length_append]
  omega
theorem piece_len {ps : List Pc} {k : Nat} {p : Pc} (h : ps[k]? = some p) : p.l.length ≤ (texts ps).length := by
  have := texts_take ps k h
  have h2 := texts_take_len ps (k + 1)
  rw [this, List.length_append] at h2; omega

/-- How far the pieces of the first k reach: what the round stands at. -/
def at_ (ps : List Pc) (k : Nat) : Int := ((texts (ps.take k)).length : Int)
theorem at_zero (ps : List Pc) : at_ ps 0 = 0 := by simp [at_, texts]
theorem at_succ (ps : List Pc) (k : Nat) {p : Pc} (h : ps[k]? = some p) : at_ ps (k + 1) = at_ ps k + p.l.length := by
  unfold at_; rw [texts_take ps k h, List.length_append]; omega
theorem at_all (ps : List Pc) : at_ ps ps.length = ((texts ps).length : Int) := by unfold at_; rw [List.take_length]
theorem at_le (ps : List Pc) (k : Nat) : 0 ≤ at_ ps k ∧ at_ ps k ≤ ((texts ps).length : Int) := by
  unfold at_; have := texts_take_len ps k; omega
theorem btw_snoc : ∀ (ps : List Pc) (k : Nat) (a u : Int) {p : Pc}, ps[k]? = some p → btw a u (ps.take (k + 1)) = btw a u (ps.take k) ++ one (a - at_ ps k) (u - at_ ps k) p
  | [], k, a, u, p, h => by simp at h
  | q :: r, 0, a, u, p, h => by
    obtain rfl : q = p := by simpa using h
    simp [btw, at_, texts]
  | q :: r, k + 1, a, u, p, h => by
    rw [List.take_succ_cons, List.take_succ_cons, btw_cons, btw_cons, btw_snoc r k _ _ (by simpa using h), List.append_assoc]
    have e : at_ (q :: r) (k + 1) = q.l.length + at_ r k := by
      unfold at_; rw [List.take_succ_cons, texts_cons, List.length_append]; omega
    rw [e]
    rw [show a - ((q.l.length : Int) + at_ r k) = a - q.l.length - at_ r k by omega, show u - ((q.l.length : Int) + at_ r k) = u - q.l.length - at_ r k by omega]

/-- What a splice makes of texts. -/
def spl (L : List ByteArray) (a d : Nat) (ins : List ByteArray) : List ByteArray := L.take a ++ ins ++ L.drop (a + d)
theorem spl_len {L : List ByteArray} {a d : Nat} {ins : List ByteArray} (h : a + d ≤ L.length) : (spl L a d ins).length = L.length - d + ins.length := by
  simp only [spl, List.length_append, List.length_take, List.length_drop]; omega
theorem spl_back {L : List ByteArray} {a d : Nat} {ins : List ByteArray} (h : a + d ≤ L.length) : spl (spl L a d ins) a ins.length ((L.take (a + d)).drop a) = L := by
  have h1 : (L.take a).length = a := by rw [List.length_take]; omega
  have e1 : (spl L a d ins).take a = L.take a := by
    unfold spl
    rw [List.append_assoc, List.take_append_of_le_length (by omega), List.take_of_length_le (by omega)]
  have e2 : (spl L a d ins).drop (a + ins.length) = L.drop (a + d) := by
    unfold spl
    exact List.drop_left' (by rw [List.length_append]; omega)
  unfold spl at e1 e2 ⊢
  rw [e1, e2]
  have e3 : L.take a = (L.take (a + d)).take a := by rw [List.take_take]; congr 1; omega
  rw [e3, List.take_append_drop, List.take_append_drop]
theorem spl_mid {L : List ByteArray} {a d : Nat} {ins : List ByteArray} (h : a + d ≤ L.length) : ((spl L a d ins).take (a + ins.length)).drop a = ins := by
  have h1 : (L.take a).length = a := by rw [List.length_take]; omega
  unfold spl
  rw [List.take_append_of_le_length (by rw [List.length_append]; omega), List.take_of_length_le (by rw [List.length_append]; omega), List.drop_append_of_le_length (by omega), List.drop_of_length_le (by omega), List.nil_append]
end Go.Proofs.Ytdbeedhedjhamaa.pce
