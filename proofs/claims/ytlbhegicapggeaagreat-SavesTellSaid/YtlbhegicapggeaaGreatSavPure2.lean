/- Saves: what becomes of a few texts that are written, in plain words. Nothing of the program is used. -/
import Derived.Test.YtlbhegicapggeaaGreatSavPure
namespace Go.Proofs.YtlbhegicapggeaaGreat.sav
open fil
set_option linter.unusedVariables false
set_option linter.unusedSimpArgs false
set_option linter.unnecessarySimpa false
set_option linter.unusedSectionVars false

theorem rise_mem {l l' : List Fl} (h : Rise l) (h' : Rise l') (hm : ∀ z, z ∈ l ↔ z ∈ l') : l = l' := by
  refine rise_ext h h' ((List.perm_ext_iff_of_nodup ?_ ?_).2 hm)
  · exact h.imp fun hab e => lt_ne hab (congrArg Fl.name e)
  · exact h'.imp fun hab e => lt_ne hab (congrArg Fl.name e)
theorem ins_ins {l : List Fl} (h : Rise l) {x y : Fl} (he : x.name = y.name) : ins (ins l x) y = ins l y := by
  refine rise_mem (rise_ins (rise_ins h x) y) (rise_ins h y) fun z => ?_
  rw [mem_ins, mem_ins, mem_ins]
  constructor
  · rintro (rfl | ⟨rfl | ⟨h1, _⟩, h2⟩)
    · exact .inl rfl
    · exact absurd he h2
    · exact .inr ⟨h1, h2⟩
  · rintro (rfl | ⟨h1, h2⟩)
    · exact .inl rfl
    · exact .inr ⟨.inr ⟨h1, by rw [he]; exact h2⟩, h2⟩
theorem del_ins {l : List Fl} (h : Rise l) {x : Fl} (hf : find l x.name = none) : del (ins l x) x.name = l := by
  refine rise_mem (rise_del (rise_ins h x) x.name) h fun z => ?_
  rw [mem_del, mem_ins]
  constructor
  · rintro ⟨rfl | ⟨h1, _⟩, h2⟩
    · exact absurd rfl h2
    · exact h1
  · exact fun h1 => ⟨.inr ⟨h1, find_none.1 hf z h1⟩, find_none.1 hf z h1⟩

theorem clean_none {s : St} (hon : s.off = false) (hf : find s.files dn = none) : sClean s = (0, s) := by
  unfold sClean sRemove
  rw [there_none hf]
  have e : stroke s 4 false (del s.files dn) = (4, s) := by unfold stroke; rw [if_neg (by rw [hon]; decide), if_neg (by decide)]
  rw [e]; rfl
/-- A stroke while nothing is due. -/
theorem stroke_plain {s : St} (hon : s.off = false) (hd : s.due = none) (early : Bool) (t : List Fl) : stroke s 0 early t = (0, { s with files := t }) := by
  unfold stroke
  rw [if_neg (by rw [hon]; decide), if_pos rfl]
  obtain ⟨_, _, _, _, d⟩ := s
  cases hd
  rfl
theorem append_free {s : St} {nm : List UInt8} {m : Nat} (h1 : isNm nm = true) (h2 : s.files.length < 32) (h3 : total s.files + m ≤ s.cap) : errAppend s nm m = 0 := by
  unfold errAppend
  rw [if_neg (by rw [h1]; decide), if_neg]
  simp only [Bool.or_eq_true, Bool.and_eq_true, decide_eq_true_eq, not_or, not_and, Nat.not_lt, Nat.not_le]
  exact ⟨fun _ => h2, h3⟩

/-- What a Write leaves that has room, while nothing is due, and no draft is there. -/
theorem write_new {s : St} (hr : Rise s.files) (hon : s.off = false) (hd : s.due = none) {nm t : List UInt8} (hn : isTx nm = true) (hf : find s.files dn = none) (h2 : s.files.length < 32) (h3 : total s.files + t.length ≤ s.cap) :
    sWrite s nm t = (0, { s with files := ins s.files ⟨nm, t, t.length⟩ }) := by
  obtain ⟨hnm, hne⟩ := isTx_nm hn
  have u : ∀ (r : Int × St) (f : St → Int × St), r.1 = 0 → andThen r f = f r.2 := fun r f h => if_pos h
  unfold sWrite
  rw [u _ _ (show sAgainst s nm = 0 by unfold sAgainst; rw [if_neg (by rw [hon]; decide), if_pos hn])]
  show andThen (sClean s) _ = _
  rw [clean_none hon hf, u _ _ rfl]
  show andThen (sAppend s dn t) _ = _
  have ea : sAppend s dn t = (0, { s with files := ins s.files ⟨dn, t, 0⟩ }) := by
    unfold sAppend
    rw [append_free dn_nm h2 h3, stroke_plain hon hd]
    unfold doAppend
    rw [hf]
  rw [ea, u _ _ rfl]
  show andThen (sSync { s with files := ins s.files ⟨dn, t, 0⟩ } dn) _ = _
  have es : sSync { s with files := ins s.files ⟨dn, t, 0⟩ } dn = (0, { s with files := ins s.files ⟨dn, t, t.length⟩ }) := by
    have f2 : find (ins s.files ⟨dn, t, 0⟩) dn = some ⟨dn, t, 0⟩ := find_ins_same hr ⟨dn, t, 0⟩
    unfold sSync
    rw [there_some (s := { s with files := ins s.files ⟨dn, t, 0⟩ }) f2, stroke_plain (s := { s with files := ins s.files ⟨dn, t, 0⟩ }) hon hd]
    unfold doSync
    show (_, { s with files := match find (ins s.files ⟨dn, t, 0⟩) dn with | some x => _ | none => _ }) = _
    rw [f2]
    show (_, { s with files := ins (ins s.files ⟨dn, t, 0⟩) ⟨dn, t, t.length⟩ }) = _
    rw [ins_ins (x := ⟨dn, t, 0⟩) (y := ⟨dn, t, t.length⟩) hr rfl]
  rw [es, u _ _ rfl]
  show sRename { s with files := ins s.files ⟨dn, t, t.length⟩ } dn nm = _
  have f3 : find (ins s.files ⟨dn, t, t.length⟩) dn = some ⟨dn, t, t.length⟩ := find_ins_same hr ⟨dn, t, t.length⟩
  unfold sRename
  have er : errRename { s with files := ins s.files ⟨dn, t, t.length⟩ } dn nm = 0 := by
    unfold errRename
    show (if (find (ins s.files ⟨dn, t, t.length⟩) dn).isNone then _ else _) = _
    rw [f3, hnm]; rfl
  rw [er, stroke_plain (s := { s with files := ins s.files ⟨dn, t, t.length⟩ }) hon hd]
  unfold doRename
  show (_, { s with files := match find (ins s.files ⟨dn, t, t.length⟩) dn with | some x => _ | none => _ }) = _
  rw [f3]
  show (_, { s with files := ins (del (ins s.files ⟨dn, t, t.length⟩) dn) ⟨nm, t, t.length⟩ }) = _
  rw [show del (ins s.files ⟨dn, t, t.length⟩) dn = s.files from del_ins (x := ⟨dn, t, t.length⟩) hr hf]

/-! ### Two texts, and a crash behind them -/
def code (nm : List UInt8) : Int := if isTx nm = true then 0 else 2
def put (s : St) (nm t : List UInt8) : St := if isTx nm = true then { s with files := ins s.files ⟨nm, t, t.length⟩ } else s
/-- A system on which only whole texts are, and nothing is due. -/
structure Calm (s : St) : Prop where
  rise : Rise s.files
  on : s.off = false
  due : s.due = none
  noDraft : find s.files dn = none
  whole : ∀ x ∈ s.files, x.plat = x.bytes.length
theorem write_not {s : St} (hon : s.off = false) {nm t : List UInt8} (hn : ¬ isTx nm = true) : sWrite s nm t = (2, s) := by
  unfold sWrite
  have e : sAgainst s nm = 2 := by unfold sAgainst; rw [if_neg (by rw [hon]; decide), if_neg hn]
  rw [e]; rfl
theorem write_put {s : St} (h : Calm s) (nm t : List UInt8) (h2 : s.files.length < 32) (h3 : total s.files + t.length ≤ s.cap) : sWrite s nm t = (code nm, put s nm t) := by
  unfold code put
  by_cases hn : isTx nm = true
  · rw [if_pos hn, if_pos hn]; exact write_new h.rise h.on h.due hn h.noDraft h2 h3
  · rw [if_neg hn, if_neg hn]; exact write_not h.on hn
theorem Calm.put {s : St} (h : Calm s) (nm t : List UInt8) : Calm (put s nm t) := by
  unfold sav.put
  split
  · rename_i hn
    refine ⟨rise_ins h.rise _, h.on, h.due, ?_, fun x hx => ?_⟩
    · show find (ins s.files ⟨nm, t, t.length⟩) dn = none
      rw [find_ins_other h.rise ⟨nm, t, t.length⟩ (Ne.symm (isTx_nm hn).2)]
      exact h.noDraft
    · rcases mem_ins.1 hx with rfl | ⟨hx, _⟩
      · rfl
      · exact h.whole x hx
  · exact h
theorem lose_whole : ∀ (ks : List Int) (l : List Fl), (∀ x ∈ l, x.plat = x.bytes.length) → lose ks l = l
  | _, [], _ => rfl
  | ks, x :: r, h => by
    rw [lose, cut_whole _ (h x (List.mem_cons_self ..)), lose_whole ks.tail r fun y hy => h y (List.mem_cons_of_mem _ hy)]
def over (s : St) : St := ⟨s.cap, s.files, true, s.starts, none⟩
def again (s : St) : St := ⟨s.cap, s.files, false, s.starts + 1, none⟩
theorem crash_calm {s : St} (h : Calm s) (ks : List Int) : sCrash s ks = (0, over s) := by
  unfold sCrash crash over
  rw [if_neg (by rw [h.on]; decide), lose_whole ks s.files h.whole]
theorem start_over (s : St) : sStart (over s) = (0, again s) := rfl
theorem put_length (s : St) (nm t : List UInt8) : (put s nm t).files.length ≤ s.files.length + 1 := by
  unfold put
  split
  · show (ins s.files ⟨nm, t, t.length⟩).length ≤ _
    rw [length_ins]
    have := length_del_le s.files nm
    show 1 + (del s.files nm).length ≤ _
    omega
  · omega
theorem put_total (s : St) (nm t : List UInt8) : total (put s nm t).files ≤ total s.files + t.length := by
  unfold put
  split
  · show total (ins s.files ⟨nm, t, t.length⟩) ≤ _
    rw [total_ins]
    have := total_del_le s.files nm
    show t.length + total (del s.files nm) ≤ _
    omega
  · omega
theorem put_cap (s : St) (nm t : List UInt8) : (put s nm t).cap = s.cap := by unfold put; split <;> rfl
theorem put_starts (s : St) (nm t : List UInt8) : (put s nm t).starts = s.starts := by unfold put; split <;> rfl
theorem load_put {s : St} (h : Rise s.files) (nm t : List UInt8) : sLoad (again (put s nm t)) nm = (if isTx nm = true then t else [], code nm) := by
  unfold sLoad code
  rw [if_neg (show ¬ (again (put s nm t)).off = true from Bool.false_ne_true)]
  by_cases hn : isTx nm = true
  · rw [if_pos hn, if_pos hn, if_pos hn]
    have e : find (again (put s nm t)).files nm = some ⟨nm, t, t.length⟩ := by
      unfold again put
      rw [if_pos hn]
      exact find_ins_same h ⟨nm, t, t.length⟩
    rw [e]
  · rw [if_neg hn, if_neg hn, if_neg hn]
theorem load_past {s : St} (h : Rise s.files) (nm nm2 t t2 : List UInt8) (hne : nm ≠ nm2) : sLoad (again (put (put s nm t) nm2 t2)) nm = (if isTx nm = true then t else [], code nm) := by
  rw [← load_put h nm t]
  have hr : Rise (put s nm t).files := by
    unfold put
    split
    · exact rise_ins h _
    · exact h
  have e : find (again (put (put s nm t) nm2 t2)).files nm = find (again (put s nm t)).files nm := by
    unfold again
    show find (put (put s nm t) nm2 t2).files nm = find (put s nm t).files nm
    rw [put]
    split
    · exact find_ins_other hr ⟨nm2, t2, t2.length⟩ hne
    · rfl
  unfold sLoad
  rw [e]
  rfl
theorem calm_new (n : Nat) : Calm (sNew n) := ⟨List.Pairwise.nil, rfl, rfl, rfl, by simp [sNew]⟩
/-- What the two are, behind both Writes, the crash and the start. -/
def fin2 (n0 n1 t0 t1 : List UInt8) : St := put (put (sNew 20000) n0 t0) n1 t1
theorem back_w0 (n0 t0 : List UInt8) (h : t0.length ≤ 3000) : sWrite (sNew 20000) n0 t0 = (code n0, put (sNew 20000) n0 t0) :=
  write_put (calm_new _) n0 t0 (by simp [sNew]) (by simp [sNew, total]; omega)
theorem back_w1 (n0 n1 t0 t1 : List UInt8) (h0 : t0.length ≤ 3000) (h1 : t1.length ≤ 3000) : sWrite (put (sNew 20000) n0 t0) n1 t1 = (code n1, fin2 n0 n1 t0 t1) := by
  refine write_put ((calm_new _).put n0 t0) n1 t1 ?_ ?_
  · have := put_length (sNew 20000) n0 t0
    have e : (sNew 20000).files.length = 0 := rfl
    omega
  · have := put_total (sNew 20000) n0 t0
    have e : total (sNew 20000).files = 0 := rfl
    have e2 : (put (sNew 20000) n0 t0).cap = 20000 := put_cap _ _ _
    omega
theorem back_crash (n0 n1 t0 t1 : List UInt8) (ks : List Int) : sCrash (fin2 n0 n1 t0 t1) ks = (0, over (fin2 n0 n1 t0 t1)) := crash_calm (((calm_new _).put n0 t0).put n1 t1) ks
theorem back_starts (n0 n1 t0 t1 : List UInt8) : (over (fin2 n0 n1 t0 t1)).starts = 0 := by
  show (fin2 n0 n1 t0 t1).starts = 0
  unfold fin2
  rw [put_starts, put_starts]; rfl
theorem back_l1 (n0 n1 t0 t1 : List UInt8) : sLoad (again (fin2 n0 n1 t0 t1)) n1 = (if isTx n1 = true then t1 else [], code n1) := load_put ((calm_new _).put n0 t0).rise n1 t1
theorem back_l0 (n0 n1 t0 t1 : List UInt8) (hne : n0 ≠ n1) : sLoad (again (fin2 n0 n1 t0 t1)) n0 = (if isTx n0 = true then t0 else [], code n0) := load_past (calm_new _).rise n0 n1 t0 t1 hne

/-! ### A draft that is left -/
def onA (t : List UInt8) : List Fl := [⟨[97], t, t.length⟩]
def withD (t x : List UInt8) (p : Nat) : List Fl := [⟨[97], t, t.length⟩, ⟨dn, x, p⟩]
theorem left_write (t : List UInt8) (h : t.length ≤ 1000) : sWrite (sNew 5000) [97] t = (0, ⟨5000, onA t, false, 0, none⟩) :=
  write_new (calm_new _).rise rfl rfl rfl rfl (by simp [sNew]) (by simp [sNew, total]; omega)
theorem left_fail (t : List UInt8) (k m : Nat) : sFail ⟨5000, onA t, false, 0, none⟩ (k : Int) [0, (m : Int)] = (0, ⟨5000, onA t, false, 0, some (k, [0, (m : Int)])⟩) := by
  unfold sFail
  rw [if_neg (show ¬ false = true by decide), if_neg (by omega), Int.toNat_natCast]
  rfl
theorem left_err (t x : List UInt8) (d : Option (Nat × List Int)) (h : t.length ≤ 1000) (hx : x.length ≤ 1000) : errAppend ⟨5000, onA t, false, 0, d⟩ dn x.length = 0 :=
  append_free dn_nm (by simp [onA]) (by simp [onA, total]; omega)
theorem left_lose (t x : List UInt8) (p : Nat) (hp : p ≤ x.length) : lose [0, (x.length : Int)] (withD t x p) = withD t x x.length := by
  unfold withD
  rw [lose, lose, lose]
  have e1 : cut1 (List.headD [0, (x.length : Int)] 0) ⟨[97], t, t.length⟩ = ⟨[97], t, t.length⟩ := cut_whole _ rfl
  have e2 : keepN (List.headD (List.tail [0, (x.length : Int)]) 0) ⟨dn, x, p⟩ = x.length := by
    show p + min (x.length : Int).toNat (x.length - p) = _
    omega
  rw [e1]
  unfold cut1
  rw [e2, List.take_length]
theorem left_dies (t x : List UInt8) (k : Nat) (hk : k < 3) (h : t.length ≤ 1000) (hx : x.length ≤ 1000) :
    sWrite ⟨5000, onA t, false, 0, some (k, [0, (x.length : Int)])⟩ [98] x = (51, ⟨5000, withD t x x.length, true, 0, none⟩) := by
  have u : ∀ (r : Int × St) (f : St → Int × St), r.1 = 0 → andThen r f = f r.2 := fun r f h => if_pos h
  unfold sWrite
  rw [u _ _ rfl]
  show andThen (sClean ⟨5000, onA t, false, 0, some (k, [0, (x.length : Int)])⟩) _ = _
  rw [clean_none (s := ⟨5000, onA t, false, 0, some (k, [0, (x.length : Int)])⟩) rfl rfl, u _ _ rfl]
  show andThen (sAppend ⟨5000, onA t, false, 0, some (k, [0, (x.length : Int)])⟩ dn x) _ = _
  match k, hk with
  | 0, _ =>
    have e : sAppend ⟨5000, onA t, false, 0, some (0, [0, (x.length : Int)])⟩ dn x = (51, ⟨5000, lose [0, (x.length : Int)] (withD t x 0), true, 0, none⟩) := by
      unfold sAppend stroke
      rw [left_err t x _ h hx]
      rfl
    rw [e, left_lose t x 0 (Nat.zero_le _)]
    rfl
  | 1, _ =>
    have e : sAppend ⟨5000, onA t, false, 0, some (1, [0, (x.length : Int)])⟩ dn x = (0, ⟨5000, withD t x 0, false, 0, some (0, [0, (x.length : Int)])⟩) := by
      unfold sAppend stroke
      rw [left_err t x _ h hx]
      rfl
    rw [e, u _ _ rfl]
    have e : sSync ⟨5000, withD t x 0, false, 0, some (0, [0, (x.length : Int)])⟩ dn = (51, ⟨5000, lose [0, (x.length : Int)] (withD t x 0), true, 0, none⟩) := rfl
    show andThen (sSync ⟨5000, withD t x 0, false, 0, some (0, [0, (x.length : Int)])⟩ dn) _ = _
    rw [e, left_lose t x 0 (Nat.zero_le _)]
    rfl
  | 2, _ =>
    have e : sAppend ⟨5000, onA t, false, 0, some (2, [0, (x.length : Int)])⟩ dn x = (0, ⟨5000, withD t x 0, false, 0, some (1, [0, (x.length : Int)])⟩) := by
      unfold sAppend stroke
      rw [left_err t x _ h hx]
      rfl
    rw [e, u _ _ rfl]
    have e : sSync ⟨5000, withD t x 0, false, 0, some (1, [0, (x.length : Int)])⟩ dn = (0, ⟨5000, withD t x x.length, false, 0, some (0, [0, (x.length : Int)])⟩) := rfl
    show andThen (sSync ⟨5000, withD t x 0, false, 0, some (1, [0, (x.length : Int)])⟩ dn) _ = _
    rw [e, u _ _ rfl]
    have e : sRename ⟨5000, withD t x x.length, false, 0, some (0, [0, (x.length : Int)])⟩ dn [98] = (51, ⟨5000, lose [0, (x.length : Int)] (withD t x x.length), true, 0, none⟩) := rfl
    show sRename ⟨5000, withD t x x.length, false, 0, some (0, [0, (x.length : Int)])⟩ dn [98] = _
    rw [e, left_lose t x x.length (Nat.le_refl _)]
theorem left_start (t x : List UInt8) : sStart ⟨5000, withD t x x.length, true, 0, none⟩ = (0, ⟨5000, withD t x x.length, false, 1, none⟩) := rfl
theorem left_load (t x : List UInt8) : sLoad ⟨5000, withD t x x.length, false, 1, none⟩ dn = ([], 2) := rfl
theorem left_clean (t x : List UInt8) : sClean ⟨5000, withD t x x.length, false, 1, none⟩ = (0, ⟨5000, onA t, false, 1, none⟩) := rfl
theorem left_clean2 (t : List UInt8) : sClean ⟨5000, onA t, false, 1, none⟩ = (0, ⟨5000, onA t, false, 1, none⟩) := rfl
theorem left_a (t : List UInt8) : sLoad ⟨5000, onA t, false, 1, none⟩ [97] = (t, 0) := rfl

/-! ### The chapter's examples -/
def d1 : List UInt8 := [49, 50, 51, 52, 53, 54]
def d2 : List UInt8 := [49, 50, 51, 52, 53]
def exS : St := ⟨10, onA d1, false, 0, none⟩
theorem ex_w1 : sWrite (sNew 10) [97] d1 = (0, exS) := rfl
theorem ex_l1 : sLoad exS [97] = (d1, 0) := rfl
theorem ex_w2 : sWrite exS [97] d2 = (50, exS) := rfl
theorem ex_l2 : sLoad exS [98] = ([], 4) := rfl
theorem ex_w3 : sWrite exS [126] [] = (2, exS) := rfl
end Go.Proofs.YtlbhegicapggeaaGreat.sav
