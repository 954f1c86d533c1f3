/- Files: what the document says of a file system, as plain lists and numbers. Nothing of the program is used. -/
namespace Go.Proofs.YtlbhegicapggeaaGreat.fil
set_option linter.unusedVariables false
set_option linter.unusedSimpArgs false
set_option linter.unnecessarySimpa false
set_option linter.unusedSectionVars false

/-- A file: its name, its bytes, how many of them are on the platter. -/
structure Fl where
  name : List UInt8
  bytes : List UInt8
  plat : Nat

/-- A file system that is one: its size limit, its files, whether it is off, how many starts were, and the crash that is due: how many strokes ahead of it, what it keeps. -/
structure St where
  cap : Nat
  files : List Fl
  off : Bool
  starts : Nat
  due : Option (Nat × List Int)

def total (l : List Fl) : Nat := (l.map fun x => x.bytes.length).sum
def isNm (x : List UInt8) : Bool := decide (1 ≤ x.length) && decide (x.length ≤ 16)
def find (l : List Fl) (nm : List UInt8) : Option Fl := l.find? fun x => x.name == nm
def del (l : List Fl) (nm : List UInt8) : List Fl := l.filter fun x => !(x.name == nm)
def ins (l : List Fl) (x : Fl) : List Fl := (l.filter fun y => decide (y.name < x.name)) ++ x :: l.filter fun y => decide (x.name < y.name)
def Rise (l : List Fl) : Prop := l.Pairwise fun a b => a.name < b.name

theorem total_nil : total [] = 0 := rfl
theorem total_cons (x : Fl) (l : List Fl) : total (x :: l) = x.bytes.length + total l := by simp [total]
theorem total_perm {l l' : List Fl} (h : l.Perm l') : total l = total l' := (h.map _).sum_nat
theorem total_append (a b : List Fl) : total (a ++ b) = total a + total b := by simp [total]
theorem total_mem {x : Fl} : ∀ {l : List Fl}, x ∈ l → x.bytes.length ≤ total l
  | y :: l, h => by
    rw [total_cons]
    rcases List.mem_cons.1 h with rfl | h
    · omega
    · have := total_mem h; omega

theorem lt_irr (a : List UInt8) : ¬ a < a := List.lt_irrefl a
theorem lt_tr {a b c : List UInt8} (h : a < b) (k : b < c) : a < c := List.lt_trans h k
theorem lt_as {a b : List UInt8} (h : a < b) : ¬ b < a := List.lt_asymm h
theorem lt_ne {a b : List UInt8} (h : a < b) : a ≠ b := fun e => lt_irr b (e ▸ h)
theorem lt_tri (a b : List UInt8) (h : ¬ a < b) (k : ¬ b < a) : a = b := List.le_antisymm (by exact k) (by exact h)

theorem ins_perm (l : List Fl) (x : Fl) : (ins l x).Perm (x :: del l x.name) := by
  have e1 : (l.filter fun y => decide (y.name < x.name)) = (del l x.name).filter fun y => decide (y.name < x.name) := by
    unfold del
    rw [List.filter_filter]
    refine List.filter_congr fun y _ => ?_
    by_cases h : y.name < x.name
    · simp [h, lt_ne h]
    · simp [h]
  have e2 : (l.filter fun y => decide (x.name < y.name)) = (del l x.name).filter fun y => !decide (y.name < x.name) := by
    unfold del
    rw [List.filter_filter]
    refine List.filter_congr fun y _ => ?_
    by_cases h : x.name < y.name
    · have := lt_as h
      have h2 := lt_ne h
      simp [h, this, Ne.symm h2]
    · by_cases h2 : y.name < x.name
      · simp [h, h2]
      · have := lt_tri _ _ h h2
        simp [h, this]
  unfold ins
  refine List.perm_middle.trans (List.Perm.cons x ?_)
  rw [e1, e2]
  exact List.filter_append_perm _ _
theorem mem_ins {l : List Fl} {x y : Fl} : y ∈ ins l x ↔ y = x ∨ (y ∈ l ∧ y.name ≠ x.name) := by
  rw [(ins_perm l x).mem_iff]
  simp [del]
theorem mem_del {l : List Fl} {nm : List UInt8} {y : Fl} : y ∈ del l nm ↔ y ∈ l ∧ y.name ≠ nm := by simp [del]
theorem rise_del {l : List Fl} (h : Rise l) (nm : List UInt8) : Rise (del l nm) := h.filter _
theorem rise_ins {l : List Fl} (h : Rise l) (x : Fl) : Rise (ins l x) := by
  refine List.pairwise_append.2 ⟨h.filter _, List.pairwise_cons.2 ⟨fun y hy => ?_, h.filter _⟩, fun a ha b hb => ?_⟩
  · simpa using (List.mem_filter.1 hy).2
  · have h1 : a.name < x.name := by simpa using (List.mem_filter.1 ha).2
    rcases List.mem_cons.1 hb with rfl | hb
    · exact h1
    · exact lt_tr h1 (by simpa using (List.mem_filter.1 hb).2)
theorem rise_ext {l l' : List Fl} (h : Rise l) (h' : Rise l') (hp : l.Perm l') : l = l' :=
  hp.eq_of_pairwise (fun a b _ _ h1 h2 => absurd h2 (lt_as h1)) h h'
theorem find_mem {l : List Fl} {nm : List UInt8} {x : Fl} (h : find l nm = some x) : x ∈ l ∧ x.name = nm :=
  ⟨List.mem_of_find?_eq_some h, by simpa using List.find?_some h⟩
theorem find_none {l : List Fl} {nm : List UInt8} : find l nm = none ↔ ∀ x ∈ l, x.name ≠ nm := by
  unfold find; rw [List.find?_eq_none]; simp
theorem rise_one : ∀ {l : List Fl}, Rise l → ∀ {x y : Fl}, x ∈ l → y ∈ l → x.name = y.name → x = y
  | z :: l, h, x, y, hx, hy, e => by
    obtain ⟨h1, h2⟩ := List.pairwise_cons.1 h
    rcases List.mem_cons.1 hx with ex | hx' <;> rcases List.mem_cons.1 hy with ey | hy'
    · rw [ex, ey]
    · exact absurd e (lt_ne (ex ▸ h1 _ hy'))
    · exact absurd e.symm (lt_ne (ey ▸ h1 _ hx'))
    · exact rise_one h2 hx' hy' e
theorem find_iff {l : List Fl} (h : Rise l) {nm : List UInt8} {x : Fl} : find l nm = some x ↔ x ∈ l ∧ x.name = nm := by
  refine ⟨find_mem, fun ⟨hm, hn⟩ => ?_⟩
  rcases hf : find l nm with _ | y
  · exact absurd hn ((find_none.1 hf) x hm)
  · obtain ⟨hy, hy2⟩ := find_mem hf
    rw [rise_one h hy hm (hy2.trans hn.symm)]
theorem find_isNone {l : List Fl} {nm : List UInt8} : (find l nm).isNone = !(l.any fun x => x.name == nm) := by
  unfold find
  induction l with
  | nil => rfl
  | cons x l ih =>
    rw [List.find?_cons, List.any_cons]
    cases x.name == nm
    · simpa using ih
    · rfl
theorem find_ins_same {l : List Fl} (h : Rise l) (x : Fl) : find (ins l x) x.name = some x := (find_iff (rise_ins h x)).2 ⟨mem_ins.2 (.inl rfl), rfl⟩
theorem find_ext {l l' : List Fl} (h : Rise l) (h' : Rise l') {nm : List UInt8} (hm : ∀ x, x.name = nm → (x ∈ l ↔ x ∈ l')) : find l nm = find l' nm := by
  rcases hf : find l nm with _ | x
  · symm
    rw [find_none] at hf ⊢
    exact fun x hx hn => hf x ((hm x hn).2 hx) hn
  · obtain ⟨h1, h2⟩ := find_mem hf
    exact ((find_iff h').2 ⟨(hm x h2).1 h1, h2⟩).symm
theorem find_ins_other {l : List Fl} (h : Rise l) (x : Fl) {nm : List UInt8} (hne : nm ≠ x.name) : find (ins l x) nm = find l nm :=
  find_ext (rise_ins h x) h fun y hy => by
    rw [mem_ins]
    refine ⟨fun h => ?_, fun h => .inr ⟨h, fun e => hne (hy.symm.trans e)⟩⟩
    rcases h with rfl | h
    · exact absurd hy.symm hne
    · exact h.1
theorem find_del_same (l : List Fl) (nm : List UInt8) : find (del l nm) nm = none := find_none.2 fun _ hx => (mem_del.1 hx).2
theorem find_del_other {l : List Fl} (h : Rise l) {nm nm' : List UInt8} (hne : nm' ≠ nm) : find (del l nm) nm' = find l nm' :=
  find_ext (rise_del h nm) h fun y hy => by
    rw [mem_del]
    exact ⟨fun h => h.1, fun h => ⟨h, fun e => hne (hy.symm.trans e)⟩⟩
theorem del_perm {l : List Fl} (h : Rise l) {nm : List UInt8} {y : Fl} (hf : find l nm = some y) : l.Perm (y :: del l nm) := by
  obtain ⟨h1, h2⟩ := find_mem hf
  have e : ins l y = l := by
    refine rise_ext (rise_ins h y) h ?_
    refine (List.perm_ext_iff_of_nodup ?_ ?_).2 fun z => ?_
    · exact (rise_ins h y).imp fun hab e => lt_ne hab (congrArg Fl.name e)
    · exact h.imp fun hab e => lt_ne hab (congrArg Fl.name e)
    · rw [mem_ins]
      refine ⟨fun h3 => ?_, fun h3 => ?_⟩
      · rcases h3 with rfl | h3
        · exact h1
        · exact h3.1
      · by_cases e : z.name = y.name
        · exact .inl (rise_one h h3 h1 e)
        · exact .inr ⟨h3, e⟩
  have := ins_perm l y
  rw [e, h2] at this
  exact this
theorem del_none {l : List Fl} {nm : List UInt8} (hf : find l nm = none) : del l nm = l :=
  List.filter_eq_self.2 fun x hx => by simpa using find_none.1 hf x hx
theorem total_ins (l : List Fl) (x : Fl) : total (ins l x) = x.bytes.length + total (del l x.name) := by rw [total_perm (ins_perm l x), total_cons]
theorem length_ins (l : List Fl) (x : Fl) : (ins l x).length = 1 + (del l x.name).length := by rw [(ins_perm l x).length_eq, List.length_cons]; omega
theorem total_del {l : List Fl} (h : Rise l) {nm : List UInt8} {y : Fl} (hf : find l nm = some y) : total l = y.bytes.length + total (del l nm) := by rw [total_perm (del_perm h hf), total_cons]
theorem length_del {l : List Fl} (h : Rise l) {nm : List UInt8} {y : Fl} (hf : find l nm = some y) : l.length = 1 + (del l nm).length := by rw [(del_perm h hf).length_eq, List.length_cons]; omega
theorem total_del_le (l : List Fl) (nm : List UInt8) : total (del l nm) ≤ total l := by
  induction l with
  | nil => exact Nat.le_refl _
  | cons x l ih =>
    unfold del at ih ⊢
    rw [List.filter_cons, total_cons]
    split
    · rw [total_cons]; omega
    · omega
theorem length_del_le (l : List Fl) (nm : List UInt8) : (del l nm).length ≤ l.length := List.length_filter_le _ _

/-! ### A crash -/
def keepN (k : Int) (x : Fl) : Nat := x.plat + min k.toNat (x.bytes.length - x.plat)
def cut1 (k : Int) (x : Fl) : Fl := ⟨x.name, x.bytes.take (keepN k x), keepN k x⟩
def lose : List Int → List Fl → List Fl
  | _, [] => []
  | ks, x :: r => cut1 (ks.headD 0) x :: lose ks.tail r
theorem keepN_le {k : Int} {x : Fl} (h : x.plat ≤ x.bytes.length) : keepN k x ≤ x.bytes.length := by unfold keepN; omega
theorem lose_length : ∀ (ks : List Int) (l : List Fl), (lose ks l).length = l.length
  | _, [] => rfl
  | ks, x :: r => by simp [lose, lose_length ks.tail r]
theorem lose_get : ∀ (ks : List Int) (l : List Fl) (i : Nat), (lose ks l)[i]? = (l[i]?).map (cut1 (ks.getD i 0))
  | _, [], _ => by simp [lose]
  | ks, x :: r, 0 => by cases ks <;> simp [lose, List.headD]
  | ks, x :: r, i + 1 => by
    simp only [lose, List.getElem?_cons_succ, lose_get ks.tail r i]
    cases ks <;> simp
theorem lose_names : ∀ (ks : List Int) (l : List Fl), (lose ks l).map (·.name) = l.map (·.name)
  | _, [] => rfl
  | ks, x :: r => by simp [lose, lose_names ks.tail r, cut1]
theorem lose_take : ∀ (n : Nat) (ks : List Int) (l : List Fl), l.length ≤ n → lose (ks.take n) l = lose ks l
  | _, _, [], _ => by simp [lose]
  | 0, _, _ :: _, h => by simp at h
  | n + 1, [], x :: r, _ => by simp
  | n + 1, k :: ks, x :: r, h => by
    simp only [List.take_succ_cons, lose, List.headD_cons, List.tail_cons]
    rw [lose_take n ks r (by simpa using h)]
theorem lose_mem {ks : List Int} {l : List Fl} {y : Fl} (h : y ∈ lose ks l) : ∃ k x, x ∈ l ∧ y = cut1 k x := by
  obtain ⟨i, hi, rfl⟩ := List.getElem_of_mem h
  have e := lose_get ks l i
  rw [List.getElem?_eq_getElem hi] at e
  rw [lose_length] at hi
  rw [List.getElem?_eq_getElem hi] at e
  exact ⟨_, _, List.getElem_mem hi, Option.some.inj e⟩
theorem rise_names {l : List Fl} : Rise l ↔ (l.map (·.name)).Pairwise (· < ·) := by unfold Rise; rw [List.pairwise_map]
theorem rise_lose {l : List Fl} (h : Rise l) (ks : List Int) : Rise (lose ks l) := by
  rw [rise_names, lose_names, ← rise_names]; exact h
theorem total_lose : ∀ (ks : List Int) (l : List Fl), total (lose ks l) ≤ total l
  | _, [] => Nat.le_refl _
  | ks, x :: r => by
    have := total_lose ks.tail r
    have h2 : (cut1 (ks.headD 0) x).bytes.length ≤ x.bytes.length := List.length_take_le' _ _
    rw [lose, total_cons, total_cons]; omega

/-! ### What is done -/
def crash (ks : List Int) (s : St) : St := { s with files := lose ks s.files, off := true, due := none }
def stroke (s : St) (e : Int) (early : Bool) (t : List Fl) : Int × St :=
  if s.off = true then (51, s) else if e = 0 then
    match s.due with
    | none => (0, { s with files := t })
    | some (0, ks) => (51, crash ks { s with files := if early = true then t else s.files })
    | some (n + 1, ks) => (0, { s with files := t, due := some (n, ks) })
  else (e, s)
def errAppend (s : St) (nm : List UInt8) (m : Nat) : Int :=
  if isNm nm = false then 2 else if ((find s.files nm).isNone && decide (32 ≤ s.files.length)) || decide (s.cap < total s.files + m) then 50 else 0
def errThere (s : St) (nm : List UInt8) : Int := if (find s.files nm).isNone then 4 else 0
def errTrunc (s : St) (nm : List UInt8) (n : Int) : Int :=
  match find s.files nm with
  | none => 4
  | some x => if n < 0 ∨ (x.bytes.length : Int) < n then 2 else 0
def errRename (s : St) (a b : List UInt8) : Int := if (find s.files a).isNone then 4 else if isNm b = false then 2 else 0
def doAppend (s : St) (nm t : List UInt8) : List Fl :=
  match find s.files nm with
  | some x => ins s.files ⟨nm, x.bytes ++ t, x.plat⟩
  | none => ins s.files ⟨nm, t, 0⟩
def doSync (s : St) (nm : List UInt8) : List Fl :=
  match find s.files nm with
  | some x => ins s.files ⟨nm, x.bytes, x.bytes.length⟩
  | none => s.files
def doTrunc (s : St) (nm : List UInt8) (n : Int) : List Fl :=
  match find s.files nm with
  | some x => ins s.files ⟨nm, x.bytes.take n.toNat, min x.plat n.toNat⟩
  | none => s.files
def doRename (s : St) (a b : List UInt8) : List Fl :=
  match find s.files a with
  | some x => ins (del s.files a) ⟨b, x.bytes, x.plat⟩
  | none => s.files
def sAppend (s : St) (nm t : List UInt8) : Int × St := stroke s (errAppend s nm t.length) true (doAppend s nm t)
def sSync (s : St) (nm : List UInt8) : Int × St := stroke s (errThere s nm) false (doSync s nm)
def sTrunc (s : St) (nm : List UInt8) (n : Int) : Int × St := stroke s (errTrunc s nm n) false (doTrunc s nm n)
def sRename (s : St) (a b : List UInt8) : Int × St := stroke s (errRename s a b) false (doRename s a b)
def sRemove (s : St) (nm : List UInt8) : Int × St := stroke s (errThere s nm) false (del s.files nm)
def sCrash (s : St) (ks : List Int) : Int × St := if s.off = true then (51, s) else (0, crash ks s)
def sFail (s : St) (n : Int) (ks : List Int) : Int × St := if s.off = true then (51, s) else if n < 0 then (2, s) else (0, { s with due := some (n.toNat, ks.take 32) })
def sStart (s : St) : Int × St := if s.off = true then (0, { s with off := false, starts := s.starts + 1 }) else (2, s)
def sNew (cap : Nat) : St := ⟨cap, [], false, 0, none⟩

/-- What may be. -/
structure Ok (s : St) : Prop where
  cap1 : 1 ≤ s.cap
  cap2 : s.cap ≤ 1048576
  rise : Rise s.files
  nm : ∀ x ∈ s.files, isNm x.name = true
  plat : ∀ x ∈ s.files, x.plat ≤ x.bytes.length
  room : total s.files ≤ s.cap
  few : s.files.length ≤ 32
  due : ∀ n ks, s.due = some (n, ks) → n ≤ 9223372036854775807 ∧ ks.length ≤ 32

/-- What a list of files may be, within a system of so many bytes. -/
structure OkF (cap : Nat) (l : List Fl) : Prop where
  rise : Rise l
  nm : ∀ x ∈ l, isNm x.name = true
  plat : ∀ x ∈ l, x.plat ≤ x.bytes.length
  room : total l ≤ cap
  few : l.length ≤ 32
theorem Ok.f {s : St} (h : Ok s) : OkF s.cap s.files := ⟨h.rise, h.nm, h.plat, h.room, h.few⟩
theorem Ok.set {s : St} (h : Ok s) {l : List Fl} (hl : OkF s.cap l) (off : Bool) (st : Nat) (d : Option (Nat × List Int)) (hd : ∀ n ks, d = some (n, ks) → n ≤ 9223372036854775807 ∧ ks.length ≤ 32) : Ok ⟨s.cap, l, off, st, d⟩ :=
  ⟨h.cap1, h.cap2, hl.rise, hl.nm, hl.plat, hl.room, hl.few, hd⟩
theorem isNm_le {x : List UInt8} (h : isNm x = true) : 1 ≤ x.length ∧ x.length ≤ 16 := by simpa [isNm] using h
theorem okf_lose {cap : Nat} {l : List Fl} (h : OkF cap l) (ks : List Int) : OkF cap (lose ks l) := by
  refine ⟨rise_lose h.rise ks, fun y hy => ?_, fun y hy => ?_, Nat.le_trans (total_lose ks l) h.room, by rw [lose_length]; exact h.few⟩
  · obtain ⟨k, x, hx, rfl⟩ := lose_mem hy; exact h.nm x hx
  · obtain ⟨k, x, hx, rfl⟩ := lose_mem hy
    show keepN k x ≤ (x.bytes.take (keepN k x)).length
    rw [List.length_take]
    have := keepN_le (k := k) (h.plat x hx)
    omega
theorem okf_del {cap : Nat} {l : List Fl} (h : OkF cap l) (nm : List UInt8) : OkF cap (del l nm) :=
  ⟨rise_del h.rise nm, fun y hy => h.nm y (mem_del.1 hy).1, fun y hy => h.plat y (mem_del.1 hy).1, Nat.le_trans (total_del_le l nm) h.room, Nat.le_trans (length_del_le l nm) h.few⟩
theorem okf_ins {cap : Nat} {l : List Fl} (h : OkF cap l) (x : Fl) (h1 : isNm x.name = true) (h2 : x.plat ≤ x.bytes.length) (h3 : x.bytes.length + total (del l x.name) ≤ cap) (h4 : 1 + (del l x.name).length ≤ 32) : OkF cap (ins l x) := by
  refine ⟨rise_ins h.rise x, fun y hy => ?_, fun y hy => ?_, by rw [total_ins]; exact h3, by rw [length_ins]; exact h4⟩
  · rcases mem_ins.1 hy with rfl | hy
    · exact h1
    · exact h.nm y hy.1
  · rcases mem_ins.1 hy with rfl | hy
    · exact h2
    · exact h.plat y hy.1
theorem okf_put {cap : Nat} {l : List Fl} (h : OkF cap l) {y : Fl} {nm : List UInt8} (hf : find l nm = some y) (x : Fl) (hn : x.name = nm) (h2 : x.plat ≤ x.bytes.length) (h3 : x.bytes.length ≤ y.bytes.length) : OkF cap (ins l x) := by
  obtain ⟨hy, rfl⟩ := find_mem hf
  have e1 := total_del h.rise hf
  have e2 := length_del h.rise hf
  refine okf_ins h x (by rw [hn]; exact h.nm y hy) h2 ?_ ?_
  · rw [hn]; have := h.room; omega
  · rw [hn]; have := h.few; omega
theorem errAppend_ok {s : St} {nm : List UInt8} {m : Nat} (h : errAppend s nm m = 0) : isNm nm = true ∧ total s.files + m ≤ s.cap ∧ (find s.files nm = none → s.files.length < 32) := by
  unfold errAppend at h
  split at h
  · cases h
  · split at h
    · cases h
    · rename_i h1 h2
      simp only [Bool.or_eq_true, Bool.and_eq_true, decide_eq_true_eq, not_or, not_and, Nat.not_lt, Nat.not_le] at h2
      exact ⟨by simpa using h1, h2.2, fun hf => h2.1 (by rw [hf]; rfl)⟩
theorem okf_append {s : St} (h : Ok s) {nm t : List UInt8} (he : errAppend s nm t.length = 0) : OkF s.cap (doAppend s nm t) := by
  obtain ⟨h1, h2, h3⟩ := errAppend_ok he
  unfold doAppend
  rcases hf : find s.files nm with _ | x
  · refine okf_ins h.f _ h1 (Nat.zero_le _) ?_ ?_
    · show t.length + total (del s.files nm) ≤ _
      have := total_del_le s.files nm; omega
    · show 1 + (del s.files nm).length ≤ 32
      have := length_del_le s.files nm; have := h3 hf; omega
  · have e1 := total_del h.rise hf
    have e2 := length_del h.rise hf
    obtain ⟨hx, rfl⟩ := find_mem hf
    refine okf_ins h.f _ h1 ?_ ?_ ?_
    · show x.plat ≤ (x.bytes ++ t).length
      rw [List.length_append]; have := h.plat x hx; omega
    · show (x.bytes ++ t).length + total (del s.files x.name) ≤ _
      rw [List.length_append]; omega
    · show 1 + (del s.files x.name).length ≤ 32
      have := h.few; omega
theorem okf_sync {s : St} (h : Ok s) (nm : List UInt8) : OkF s.cap (doSync s nm) := by
  unfold doSync
  rcases hf : find s.files nm with _ | x
  · exact h.f
  · exact okf_put h.f hf ⟨nm, x.bytes, x.bytes.length⟩ rfl (Nat.le_refl _) (Nat.le_refl _)
theorem okf_trunc {s : St} (h : Ok s) (nm : List UInt8) (n : Int) : OkF s.cap (doTrunc s nm n) := by
  unfold doTrunc
  rcases hf : find s.files nm with _ | x
  · exact h.f
  · have := h.plat x (find_mem hf).1
    exact okf_put h.f hf ⟨nm, x.bytes.take n.toNat, min x.plat n.toNat⟩ rfl (by show min x.plat n.toNat ≤ (x.bytes.take n.toNat).length; rw [List.length_take]; omega) (List.length_take_le' _ _)
theorem okf_rename {s : St} (h : Ok s) {a b : List UInt8} (he : errRename s a b = 0) : OkF s.cap (doRename s a b) := by
  unfold doRename
  unfold errRename at he
  rcases hf : find s.files a with _ | x
  · exact h.f
  · rw [hf] at he
    have hb : isNm b = true := by
      cases hb : isNm b
      · simp [hb] at he
      · rfl
    obtain ⟨hx, rfl⟩ := find_mem hf
    have e1 := total_del h.rise hf
    have e2 := length_del h.rise hf
    have := total_del_le (del s.files x.name) b
    have := length_del_le (del s.files x.name) b
    have := h.room
    have := h.few
    exact okf_ins (okf_del h.f x.name) _ hb (h.plat x hx) (by show x.bytes.length + total (del (del s.files x.name) b) ≤ _; omega) (by show 1 + (del (del s.files x.name) b).length ≤ 32; omega)
theorem ok_crash {s : St} (h : Ok s) (ks : List Int) {l : List Fl} (hl : OkF s.cap l) : Ok (crash ks { s with files := l }) :=
  h.set (okf_lose hl ks) _ _ _ (fun _ _ e => by cases e)
theorem ok_stroke {s : St} (h : Ok s) (e : Int) (early : Bool) (t : List Fl) (ht : e = 0 → OkF s.cap t) : Ok (stroke s e early t).2 := by
  unfold stroke
  split
  · exact h
  · split
    · rename_i he
      have ht := ht he
      rcases hd : s.due with _ | ⟨n, ks⟩
      · have := h.set ht s.off s.starts none (fun _ _ e => by cases e); rw [← hd] at this; simpa [hd] using this
      · have hdd := h.due n ks hd
        cases n with
        | zero =>
          refine ok_crash h ks ?_
          split
          · exact ht
          · exact h.f
        | succ n => exact h.set ht s.off s.starts (some (n, ks)) (fun n' ks' e => by simp only [Option.some.injEq, Prod.mk.injEq] at e; obtain ⟨rfl, rfl⟩ := e; exact ⟨by omega, hdd.2⟩)
    · exact h
theorem ok_append {s : St} (h : Ok s) (nm t : List UInt8) : Ok (sAppend s nm t).2 := ok_stroke h _ _ _ (okf_append h)
theorem ok_sync {s : St} (h : Ok s) (nm : List UInt8) : Ok (sSync s nm).2 := ok_stroke h _ _ _ (fun _ => okf_sync h nm)
theorem ok_trunc {s : St} (h : Ok s) (nm : List UInt8) (n : Int) : Ok (sTrunc s nm n).2 := ok_stroke h _ _ _ (fun _ => okf_trunc h nm n)
theorem ok_rename {s : St} (h : Ok s) (a b : List UInt8) : Ok (sRename s a b).2 := ok_stroke h _ _ _ (okf_rename h)
theorem ok_remove {s : St} (h : Ok s) (nm : List UInt8) : Ok (sRemove s nm).2 := ok_stroke h _ _ _ (fun _ => okf_del h.f nm)
theorem ok_sCrash {s : St} (h : Ok s) (ks : List Int) : Ok (sCrash s ks).2 := by
  unfold sCrash
  split
  · exact h
  · exact ok_crash h ks h.f
theorem ok_fail {s : St} (h : Ok s) (n : Int) (ks : List Int) (hn : n ≤ 9223372036854775807) : Ok (sFail s n ks).2 := by
  unfold sFail
  split
  · exact h
  · split
    · exact h
    · exact h.set h.f s.off s.starts _ (fun n' ks' e => by simp only [Option.some.injEq, Prod.mk.injEq] at e; obtain ⟨rfl, rfl⟩ := e; exact ⟨by omega, List.length_take_le _ _⟩)
theorem ok_start {s : St} (h : Ok s) : Ok (sStart s).2 := by
  unfold sStart
  split
  · exact h.set h.f _ _ _ h.due
  · exact h
theorem ok_new {cap : Nat} (h1 : 1 ≤ cap) (h2 : cap ≤ 1048576) : Ok (sNew cap) :=
  ⟨h1, h2, List.Pairwise.nil, by simp [sNew], by simp [sNew], Nat.zero_le _, Nat.zero_le _, fun _ _ e => by cases e⟩
end Go.Proofs.YtlbhegicapggeaaGreat.fil
