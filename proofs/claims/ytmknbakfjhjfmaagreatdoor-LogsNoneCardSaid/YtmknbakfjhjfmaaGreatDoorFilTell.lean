/- Files: what a file system tells: its files' bytes, whether it is on, how many starts were, its size, whether there is room. -/
import Derived.Test.YtmknbakfjhjfmaaGreatDoorWords
import Derived.Maps.RangeWalk
import Derived.Sort.KeysCollected
import Derived.Lib.AppendStr
import Derived.Lib.Strings
import Derived.Deep.Fields
import Derived.Test.YtmknbakfjhjfmaaGreatDoorShelf
import Derived.Test.YtmknbakfjhjfmaaGreatDoorIter
import Derived.Lib.Hide
import Derived.StringKeys
import Derived.WalkLawsBesides
import Derived.WalkSpells
import Derived.Deep.QuietTactic
import Derived.BigQuiet
import Derived.Deep.LoopGhost
/-! Files: what the document says of a file system, as plain lists and numbers. Nothing of the program is used. -/
namespace Go.Proofs.YtmknbakfjhjfmaaGreatDoor.fil
set_option linter.unusedVariables false
set_option linter.unusedSimpArgs false
set_option linter.unnecessarySimpa false
set_option linter.unusedSectionVars false

/-- A file: its name, its bytes, how many of them are on the platter. -/
structure Fl where
  name : List UInt8
  bytes : List UInt8
  plat : Nat

/-- A file system that is one: its size limit, its files, whether it is off, how many starts were, and the crash that is due: how many strokes ahead of it, what it keeps. -/
structure St where
  cap : Nat
  files : List Fl
  off : Bool
  starts : Nat
  due : Option (Nat × List Int)

def total (l : List Fl) : Nat := (l.map fun x => x.bytes.length).sum
def isNm (x : List UInt8) : Bool := decide (1 ≤ x.length) && decide (x.length ≤ 16)
def find (l : List Fl) (nm : List UInt8) : Option Fl := l.find? fun x => x.name == nm
def del (l : List Fl) (nm : List UInt8) : List Fl := l.filter fun x => !(x.name == nm)
def ins (l : List Fl) (x : Fl) : List Fl := (l.filter fun y => decide (y.name < x.name)) ++ x :: l.filter fun y => decide (x.name < y.name)
def Rise (l : List Fl) : Prop := l.Pairwise fun a b => a.name < b.name

theorem total_nil : total [] = 0 := rfl
theorem total_cons (x : Fl) (l : List Fl) : total (x :: l) = x.bytes.length + total l := by simp [total]
theorem total_perm {l l' : List Fl} (h : l.Perm l') : total l = total l' := (h.map _).sum_nat
theorem total_append (a b : List Fl) : total (a ++ b) = total a + total b := by simp [total]
theorem total_mem {x : Fl} : ∀ {l : List Fl}, x ∈ l → x.bytes.length ≤ total l
  | y :: l, h => by
    rw [total_cons]
    rcases List.mem_cons.1 h with rfl | h
    · omega
    · have := total_mem h; omega

theorem lt_irr (a : List UInt8) : ¬ a < a := List.lt_irrefl a
theorem lt_tr {a b c : List UInt8} (h : a < b) (k : b < c) : a < c := List.lt_trans h k
theorem lt_as {a b : List UInt8} (h : a < b) : ¬ b < a := List.lt_asymm h
theorem lt_ne {a b : List UInt8} (h : a < b) : a ≠ b := fun e => lt_irr b (e ▸ h)
theorem lt_tri (a b : List UInt8) (h : ¬ a < b) (k : ¬ b < a) : a = b := List.le_antisymm (by exact k) (by exact h)

theorem ins_perm (l : List Fl) (x : Fl) : (ins l x).Perm (x :: del l x.name) := by
  have e1 : (l.filter fun y => decide (y.name < x.name)) = (del l x.name).filter fun y => decide (y.name < x.name) := by
    unfold del
    rw [List.filter_filter]
    refine List.filter_congr fun y _ => ?_
    by_cases h : y.name < x.name
    · simp [h, lt_ne h]
    · simp [h]
  have e2 : (l.filter fun y => decide (x.name < y.name)) = (del l x.name).filter fun y => !decide (y.name < x.name) := by
    unfold del
    rw [List.filter_filter]
    refine List.filter_congr fun y _ => ?_
    by_cases h : x.name < y.name
    · have := lt_as h
      have h2 := lt_ne h
      simp [h, this, Ne.symm h2]
    · by_cases h2 : y.name < x.name
      · simp [h, h2]
      · have := lt_tri _ _ h h2
        simp [h, this]
  unfold ins
  refine List.perm_middle.trans (List.Perm.cons x ?_)
  rw [e1, e2]
  exact List.filter_append_perm _ _
theorem mem_ins {l : List Fl} {x y : Fl} : y ∈ ins l x ↔ y = x ∨ (y ∈ l ∧ y.name ≠ x.name) := by
  rw [(ins_perm l x).mem_iff]
  simp [del]
theorem mem_del {l : List Fl} {nm : List UInt8} {y : Fl} : y ∈ del l nm ↔ y ∈ l ∧ y.name ≠ nm := by simp [del]
theorem rise_del {l : List Fl} (h : Rise l) (nm : List UInt8) : Rise (del l nm) := h.filter _
theorem rise_ins {l : List Fl} (h : Rise l) (x : Fl) : Rise (ins l x) := by
  refine List.pairwise_append.2 ⟨h.filter _, List.pairwise_cons.2 ⟨fun y hy => ?_, h.filter _⟩, fun a ha b hb => ?_⟩
  · simpa using (List.mem_filter.1 hy).2
  · have h1 : a.name < x.name := by simpa using (List.mem_filter.1 ha).2
    rcases List.mem_cons.1 hb with rfl | hb
    · exact h1
    · exact lt_tr h1 (by simpa using (List.mem_filter.1 hb).2)
theorem rise_ext {l l' : List Fl} (h : Rise l) (h' : Rise l') (hp : l.Perm l') : l = l' :=
  hp.eq_of_pairwise (fun a b _ _ h1 h2 => absurd h2 (lt_as h1)) h h'
theorem find_mem {l : List Fl} {nm : List UInt8} {x : Fl} (h : find l nm = some x) : x ∈ l ∧ x.name = nm :=
  ⟨List.mem_of_find?_eq_some h, by simpa using List.find?_some h⟩
theorem find_none {l : List Fl} {nm : List UInt8} : find l nm = none ↔ ∀ x ∈ l, x.name ≠ nm := by
  unfold find; rw [List.find?_eq_none]; simp
theorem rise_one : ∀ {l : List Fl}, Rise l → ∀ {x y : Fl}, x ∈ l → y ∈ l → x.name = y.name → x = y
  | z :: l, h, x, y, hx, hy, e => by
    obtain ⟨h1, h2⟩ := List.pairwise_cons.1 h
    rcases List.mem_cons.1 hx with ex | hx' <;> rcases List.mem_cons.1 hy with ey | hy'
    · rw [ex, ey]
    · exact absurd e (lt_ne (ex ▸ h1 _ hy'))
    · exact absurd e.symm (lt_ne (ey ▸ h1 _ hx'))
    · exact rise_one h2 hx' hy' e
theorem find_iff {l : List Fl} (h : Rise l) {nm : List UInt8} {x : Fl} : find l nm = some x ↔ x ∈ l ∧ x.name = nm := by
  refine ⟨find_mem, fun ⟨hm, hn⟩ => ?_⟩
  rcases hf : find l nm with _ | y
  · exact absurd hn ((find_none.1 hf) x hm)
  · obtain ⟨hy, hy2⟩ := find_mem hf
    rw [rise_one h hy hm (hy2.trans hn.symm)]
theorem find_isNone {l : List Fl} {nm : List UInt8} : (find l nm).isNone = !(l.any fun x => x.name == nm) := by
  unfold find
  induction l with
  | nil => rfl
  | cons x l ih =>
    rw [List.find?_cons, List.any_cons]
    cases x.name == nm
    · simpa using ih
    · rfl
theorem find_ins_same {l : List Fl} (h : Rise l) (x : Fl) : find (ins l x) x.name = some x := (find_iff (rise_ins h x)).2 ⟨mem_ins.2 (.inl rfl), rfl⟩
theorem find_ext {l l' : List Fl} (h : Rise l) (h' : Rise l') {nm : List UInt8} (hm : ∀ x, x.name = nm → (x ∈ l ↔ x ∈ l')) : find l nm = find l' nm := by
  rcases hf : find l nm with _ | x
  · symm
    rw [find_none] at hf ⊢
    exact fun x hx hn => hf x ((hm x hn).2 hx) hn
  · obtain ⟨h1, h2⟩ := find_mem hf
    exact ((find_iff h').2 ⟨(hm x h2).1 h1, h2⟩).symm
theorem find_ins_other {l : List Fl} (h : Rise l) (x : Fl) {nm : List UInt8} (hne : nm ≠ x.name) : find (ins l x) nm = find l nm :=
  find_ext (rise_ins h x) h fun y hy => by
    rw [mem_ins]
    refine ⟨fun h => ?_, fun h => .inr ⟨h, fun e => hne (hy.symm.trans e)⟩⟩
    rcases h with rfl | h
    · exact absurd hy.symm hne
    · exact h.1
theorem find_del_same (l : List Fl) (nm : List UInt8) : find (del l nm) nm = none := find_none.2 fun _ hx => (mem_del.1 hx).2
theorem find_del_other {l : List Fl} (h : Rise l) {nm nm' : List UInt8} (hne : nm' ≠ nm) : find (del l nm) nm' = find l nm' :=
  find_ext (rise_del h nm) h fun y hy => by
    rw [mem_del]
    exact ⟨fun h => h.1, fun h => ⟨h, fun e => hne (hy.symm.trans e)⟩⟩
theorem del_perm {l : List Fl} (h : Rise l) {nm : List UInt8} {y : Fl} (hf : find l nm = some y) : l.Perm (y :: del l nm) := by
  obtain ⟨h1, h2⟩ := find_mem hf
  have e : ins l y = l := by
    refine rise_ext (rise_ins h y) h ?_
    refine (List.perm_ext_iff_of_nodup ?_ ?_).2 fun z => ?_
    · exact (rise_ins h y).imp fun hab e => lt_ne hab (congrArg Fl.name e)
    · exact h.imp fun hab e => lt_ne hab (congrArg Fl.name e)
    · rw [mem_ins]
      refine ⟨fun h3 => ?_, fun h3 => ?_⟩
      · rcases h3 with rfl | h3
        · exact h1
        · exact h3.1
      · by_cases e : z.name = y.name
        · exact .inl (rise_one h h3 h1 e)
        · exact .inr ⟨h3, e⟩
  have := ins_perm l y
  rw [e, h2] at this
  exact this
theorem del_none {l : List Fl} {nm : List UInt8} (hf : find l nm = none) : del l nm = l :=
  List.filter_eq_self.2 fun x hx => by simpa using find_none.1 hf x hx
theorem total_ins (l : List Fl) (x : Fl) : total (ins l x) = x.bytes.length + total (del l x.name) := by rw [total_perm (ins_perm l x), total_cons]
theorem length_ins (l : List Fl) (x : Fl) : (ins l x).length = 1 + (del l x.name).length := by rw [(ins_perm l x).length_eq, List.length_cons]; omega
theorem total_del {l : List Fl} (h : Rise l) {nm : List UInt8} {y : Fl} (hf : find l nm = some y) : total l = y.bytes.length + total (del l nm) := by rw [total_perm (del_perm h hf), total_cons]
theorem length_del {l : List Fl} (h : Rise l) {nm : List UInt8} {y : Fl} (hf : find l nm = some y) : l.length = 1 + (del l nm).length := by rw [(del_perm h hf).length_eq, List.length_cons]; omega
theorem total_del_le (l : List Fl) (nm : List UInt8) : total (del l nm) ≤ total l := by
  induction l with
  | nil => exact Nat.le_refl _
  | cons x l ih =>
    unfold del at ih ⊢
    rw [List.filter_cons, total_cons]
    split
    · rw [total_cons]; omega
    · omega
theorem length_del_le (l : List Fl) (nm : List UInt8) : (del l nm).length ≤ l.length := List.length_filter_le _ _

/-! ### A crash -/
def keepN (k : Int) (x : Fl) : Nat := x.plat + min k.toNat (x.bytes.length - x.plat)
def cut1 (k : Int) (x : Fl) : Fl := ⟨x.name, x.bytes.take (keepN k x), keepN k x⟩
def lose : List Int → List Fl → List Fl
  | _, [] => []
  | ks, x :: r => cut1 (ks.headD 0) x :: lose ks.tail r
theorem keepN_le {k : Int} {x : Fl} (h : x.plat ≤ x.bytes.length) : keepN k x ≤ x.bytes.length := by unfold keepN; omega
theorem lose_length : ∀ (ks : List Int) (l : List Fl), (lose ks l).length = l.length
  | _, [] => rfl
  | ks, x :: r => by simp [lose, lose_length ks.tail r]
theorem lose_get : ∀ (ks : List Int) (l : List Fl) (i : Nat), (lose ks l)[i]? = (l[i]?).map (cut1 (ks.getD i 0))
  | _, [], _ => by simp [lose]
  | ks, x :: r, 0 => by cases ks <;> simp [lose, List.headD]
  | ks, x :: r, i + 1 => by
    simp only [lose, List.getElem?_cons_succ, lose_get ks.tail r i]
    cases ks <;> simp
theorem lose_names : ∀ (ks : List Int) (l : List Fl), (lose ks l).map (·.name) = l.map (·.name)
  | _, [] => rfl
  | ks, x :: r => by simp [lose, lose_names ks.tail r, cut1]
theorem lose_take : ∀ (n : Nat) (ks : List Int) (l : List Fl), l.length ≤ n → lose (ks.take n) l = lose ks l
  | _, _, [], _ => by simp [lose]
  | 0, _, _ :: _, h => by simp at h
  | n + 1, [], x :: r, _ => by simp
  | n + 1, k :: ks, x :: r, h => by
    simp only [List.take_succ_cons, lose, List.headD_cons, List.tail_cons]
    rw [lose_take n ks r (by simpa using h)]
theorem lose_mem {ks : List Int} {l : List Fl} {y : Fl} (h : y ∈ lose ks l) : ∃ k x, x ∈ l ∧ y = cut1 k x := by
  obtain ⟨i, hi, rfl⟩ := List.getElem_of_mem h
  have e := lose_get ks l i
  rw [List.getElem?_eq_getElem hi] at e
  rw [lose_length] at hi
  rw [List.getElem?_eq_getElem hi] at e
  exact ⟨_, _, List.getElem_mem hi, Option.some.inj e⟩
theorem rise_names {l : List Fl} : Rise l ↔ (l.map (·.name)).Pairwise (· < ·) := by unfold Rise; rw [List.pairwise_map]
theorem rise_lose {l : List Fl} (h : Rise l) (ks : List Int) : Rise (lose ks l) := by
  rw [rise_names, lose_names, ← rise_names]; exact h
theorem total_lose : ∀ (ks : List Int) (l : List Fl), total (lose ks l) ≤ total l
  | _, [] => Nat.le_refl _
  | ks, x :: r => by
    have := total_lose ks.tail r
    have h2 : (cut1 (ks.headD 0) x).bytes.length ≤ x.bytes.length := List.length_take_le' _ _
    rw [lose, total_cons, total_cons]; omega

/-! ### What is done -/
def crash (ks : List Int) (s : St) : St := { s with files := lose ks s.files, off := true, due := none }
def stroke (s : St) (e : Int) (early : Bool) (t : List Fl) : Int × St :=
  if s.off = true then (51, s) else if e = 0 then
    match s.due with
    | none => (0, { s with files := t })
    | some (0, ks) => (51, crash ks { s with files := if early = true then t else s.files })
    | some (n + 1, ks) => (0, { s with files := t, due := some (n, ks) })
  else (e, s)
def errAppend (s : St) (nm : List UInt8) (m : Nat) : Int :=
  if isNm nm = false then 2 else if ((find s.files nm).isNone && decide (32 ≤ s.files.length)) || decide (s.cap < total s.files + m) then 50 else 0
def errThere (s : St) (nm : List UInt8) : Int := if (find s.files nm).isNone then 4 else 0
def errTrunc (s : St) (nm : List UInt8) (n : Int) : Int :=
  match find s.files nm with
  | none => 4
  | some x => if n < 0 ∨ (x.bytes.length : Int) < n then 2 else 0
def errRename (s : St) (a b : List UInt8) : Int := if (find s.files a).isNone then 4 else if isNm b = false then 2 else 0
def doAppend (s : St) (nm t : List UInt8) : List Fl :=
  match find s.files nm with
  | some x => ins s.files ⟨nm, x.bytes ++ t, x.plat⟩
  | none => ins s.files ⟨nm, t, 0⟩
def doSync (s : St) (nm : List UInt8) : List Fl :=
  match find s.files nm with
  | some x => ins s.files ⟨nm, x.bytes, x.bytes.length⟩
  | none => s.files
def doTrunc (s : St) (nm : List UInt8) (n : Int) : List Fl :=
  match find s.files nm with
  | some x => ins s.files ⟨nm, x.bytes.take n.toNat, min x.plat n.toNat⟩
  | none => s.files
def doRename (s : St) (a b : List UInt8) : List Fl :=
  match find s.files a with
  | some x => ins (del s.files a) ⟨b, x.bytes, x.plat⟩
  | none => s.files
def sAppend (s : St) (nm t : List UInt8) : Int × St := stroke s (errAppend s nm t.length) true (doAppend s nm t)
def sSync (s : St) (nm : List UInt8) : Int × St := stroke s (errThere s nm) false (doSync s nm)
def sTrunc (s : St) (nm : List UInt8) (n : Int) : Int × St := stroke s (errTrunc s nm n) false (doTrunc s nm n)
def sRename (s : St) (a b : List UInt8) : Int × St := stroke s (errRename s a b) false (doRename s a b)
def sRemove (s : St) (nm : List UInt8) : Int × St := stroke s (errThere s nm) false (del s.files nm)
def sCrash (s : St) (ks : List Int) : Int × St := if s.off = true then (51, s) else (0, crash ks s)
def sFail (s : St) (n : Int) (ks : List Int) : Int × St := if s.off = true then (51, s) else if n < 0 then (2, s) else (0, { s with due := some (n.toNat, ks.take 32) })
def sStart (s : St) : Int × St := if s.off = true then (0, { s with off := false, starts := s.starts + 1 }) else (2, s)
def sNew (cap : Nat) : St := ⟨cap, [], false, 0, none⟩

/-- What may be. -/
structure Ok (s : St) : Prop where
  cap1 : 1 ≤ s.cap
  cap2 : s.cap ≤ 1048576
  rise : Rise s.files
  nm : ∀ x ∈ s.files, isNm x.name = true
  plat : ∀ x ∈ s.files, x.plat ≤ x.bytes.length
  room : total s.files ≤ s.cap
  few : s.files.length ≤ 32
  due : ∀ n ks, s.due = some (n, ks) → n ≤ 9223372036854775807 ∧ ks.length ≤ 32

/-- What a list of files may be, within a system of so many bytes. -/
structure OkF (cap : Nat) (l : List Fl) : Prop where
  rise : Rise l
  nm : ∀ x ∈ l, isNm x.name = true
  plat : ∀ x ∈ l, x.plat ≤ x.bytes.length
  room : total l ≤ cap
  few : l.length ≤ 32
theorem Ok.f {s : St} (h : Ok s) : OkF s.cap s.files := ⟨h.rise, h.nm, h.plat, h.room, h.few⟩
theorem Ok.set {s : St} (h : Ok s) {l : List Fl} (hl : OkF s.cap l) (off : Bool) (st : Nat) (d : Option (Nat × List Int)) (hd : ∀ n ks, d = some (n, ks) → n ≤ 9223372036854775807 ∧ ks.length ≤ 32) : Ok ⟨s.cap, l, off, st, d⟩ :=
  ⟨h.cap1, h.cap2, hl.rise, hl.nm, hl.plat, hl.room, hl.few, hd⟩
theorem isNm_le {x : List UInt8} (h : isNm x = true) : 1 ≤ x.length ∧ x.length ≤ 16 := by simpa [isNm] using h
theorem okf_lose {cap : Nat} {l : List Fl} (h : OkF cap l) (ks : List Int) : OkF cap (lose ks l) := by
  refine ⟨rise_lose h.rise ks, fun y hy => ?_, fun y hy => ?_, Nat.le_trans (total_lose ks l) h.room, by rw [lose_length]; exact h.few⟩
  · obtain ⟨k, x, hx, rfl⟩ := lose_mem hy; exact h.nm x hx
  · obtain ⟨k, x, hx, rfl⟩ := lose_mem hy
    show keepN k x ≤ (x.bytes.take (keepN k x)).length
    rw [List.length_take]
    have := keepN_le (k := k) (h.plat x hx)
    omega
theorem okf_del {cap : Nat} {l : List Fl} (h : OkF cap l) (nm : List UInt8) : OkF cap (del l nm) :=
  ⟨rise_del h.rise nm, fun y hy => h.nm y (mem_del.1 hy).1, fun y hy => h.plat y (mem_del.1 hy).1, Nat.le_trans (total_del_le l nm) h.room, Nat.le_trans (length_del_le l nm) h.few⟩
theorem okf_ins {cap : Nat} {l : List Fl} (h : OkF cap l) (x : Fl) (h1 : isNm x.name = true) (h2 : x.plat ≤ x.bytes.length) (h3 : x.bytes.length + total (del l x.name) ≤ cap) (h4 : 1 + (del l x.name).length ≤ 32) : OkF cap (ins l x) := by
  refine ⟨rise_ins h.rise x, fun y hy => ?_, fun y hy => ?_, by rw [total_ins]; exact h3, by rw [length_ins]; exact h4⟩
  · rcases mem_ins.1 hy with rfl | hy
    · exact h1
    · exact h.nm y hy.1
  · rcases mem_ins.1 hy with rfl | hy
    · exact h2
    · exact h.plat y hy.1
theorem okf_put {cap : Nat} {l : List Fl} (h : OkF cap l) {y : Fl} {nm : List UInt8} (hf : find l nm = some y) (x : Fl) (hn : x.name = nm) (h2 : x.plat ≤ x.bytes.length) (h3 : x.bytes.length ≤ y.bytes.length) : OkF cap (ins l x) := by
  obtain ⟨hy, rfl⟩ := find_mem hf
  have e1 := total_del h.rise hf
  have e2 := length_del h.rise hf
  refine okf_ins h x (by rw [hn]; exact h.nm y hy) h2 ?_ ?_
  · rw [hn]; have := h.room; omega
  · rw [hn]; have := h.few; omega
theorem errAppend_ok {s : St} {nm : List UInt8} {m : Nat} (h : errAppend s nm m = 0) : isNm nm = true ∧ total s.files + m ≤ s.cap ∧ (find s.files nm = none → s.files.length < 32) := by
  unfold errAppend at h
  split at h
  · cases h
  · split at h
    · cases h
    · rename_i h1 h2
      simp only [Bool.or_eq_true, Bool.and_eq_true, decide_eq_true_eq, not_or, not_and, Nat.not_lt, Nat.not_le] at h2
      exact ⟨by simpa using h1, h2.2, fun hf => h2.1 (by rw [hf]; rfl)⟩
theorem okf_append {s : St} (h : Ok s) {nm t : List UInt8} (he : errAppend s nm t.length = 0) : OkF s.cap (doAppend s nm t) := by
  obtain ⟨h1, h2, h3⟩ := errAppend_ok he
  unfold doAppend
  rcases hf : find s.files nm with _ | x
  · refine okf_ins h.f _ h1 (Nat.zero_le _) ?_ ?_
    · show t.length + total (del s.files nm) ≤ _
      have := total_del_le s.files nm; omega
    · show 1 + (del s.files nm).length ≤ 32
      have := length_del_le s.files nm; have := h3 hf; omega
  · have e1 := total_del h.rise hf
    have e2 := length_del h.rise hf
    obtain ⟨hx, rfl⟩ := find_mem hf
    refine okf_ins h.f _ h1 ?_ ?_ ?_
    · show x.plat ≤ (x.bytes ++ t).length
      rw [List.length_append]; have := h.plat x hx; omega
    · show (x.bytes ++ t).length + total (del s.files x.name) ≤ _
      rw [List.length_append]; omega
    · show 1 + (del s.files x.name).length ≤ 32
      have := h.few; omega
theorem okf_sync {s : St} (h : Ok s) (nm : List UInt8) : OkF s.cap (doSync s nm) := by
  unfold doSync
  rcases hf : find s.files nm with _ | x
  · exact h.f
  · exact okf_put h.f hf ⟨nm, x.bytes, x.bytes.length⟩ rfl (Nat.le_refl _) (Nat.le_refl _)
theorem okf_trunc {s : St} (h : Ok s) (nm : List UInt8) (n : Int) : OkF s.cap (doTrunc s nm n) := by
  unfold doTrunc
  rcases hf : find s.files nm with _ | x
  · exact h.f
  · have := h.plat x (find_mem hf).1
    exact okf_put h.f hf ⟨nm, x.bytes.take n.toNat, min x.plat n.toNat⟩ rfl (by show min x.plat n.toNat ≤ (x.bytes.take n.toNat).length; rw [List.length_take]; omega) (List.length_take_le' _ _)
theorem okf_rename {s : St} (h : Ok s) {a b : List UInt8} (he : errRename s a b = 0) : OkF s.cap (doRename s a b) := by
  unfold doRename
  unfold errRename at he
  rcases hf : find s.files a with _ | x
  · exact h.f
  · rw [hf] at he
    have hb : isNm b = true := by
      cases hb : isNm b
      · simp [hb] at he
      · rfl
    obtain ⟨hx, rfl⟩ := find_mem hf
    have e1 := total_del h.rise hf
    have e2 := length_del h.rise hf
    have := total_del_le (del s.files x.name) b
    have := length_del_le (del s.files x.name) b
    have := h.room
    have := h.few
    exact okf_ins (okf_del h.f x.name) _ hb (h.plat x hx) (by show x.bytes.length + total (del (del s.files x.name) b) ≤ _; omega) (by show 1 + (del (del s.files x.name) b).length ≤ 32; omega)
theorem ok_crash {s : St} (h : Ok s) (ks : List Int) {l : List Fl} (hl : OkF s.cap l) : Ok (crash ks { s with files := l }) :=
  h.set (okf_lose hl ks) _ _ _ (fun _ _ e => by cases e)
theorem ok_stroke {s : St} (h : Ok s) (e : Int) (early : Bool) (t : List Fl) (ht : e = 0 → OkF s.cap t) : Ok (stroke s e early t).2 := by
  unfold stroke
  split
  · exact h
  · split
    · rename_i he
      have ht := ht he
      rcases hd : s.due with _ | ⟨n, ks⟩
      · have := h.set ht s.off s.starts none (fun _ _ e => by cases e); rw [← hd] at this; simpa [hd] using this
      · have hdd := h.due n ks hd
        cases n with
        | zero =>
          refine ok_crash h ks ?_
          split
          · exact ht
          · exact h.f
        | succ n => exact h.set ht s.off s.starts (some (n, ks)) (fun n' ks' e => by simp only [Option.some.injEq, Prod.mk.injEq] at e; obtain ⟨rfl, rfl⟩ := e; exact ⟨by omega, hdd.2⟩)
    · exact h
theorem ok_append {s : St} (h : Ok s) (nm t : List UInt8) : Ok (sAppend s nm t).2 := ok_stroke h _ _ _ (okf_append h)
theorem ok_sync {s : St} (h : Ok s) (nm : List UInt8) : Ok (sSync s nm).2 := ok_stroke h _ _ _ (fun _ => okf_sync h nm)
theorem ok_trunc {s : St} (h : Ok s) (nm : List UInt8) (n : Int) : Ok (sTrunc s nm n).2 := ok_stroke h _ _ _ (fun _ => okf_trunc h nm n)
theorem ok_rename {s : St} (h : Ok s) (a b : List UInt8) : Ok (sRename s a b).2 := ok_stroke h _ _ _ (okf_rename h)
theorem ok_remove {s : St} (h : Ok s) (nm : List UInt8) : Ok (sRemove s nm).2 := ok_stroke h _ _ _ (fun _ => okf_del h.f nm)
theorem ok_sCrash {s : St} (h : Ok s) (ks : List Int) : Ok (sCrash s ks).2 := by
  unfold sCrash
  split
  · exact h
  · exact ok_crash h ks h.f
theorem ok_fail {s : St} (h : Ok s) (n : Int) (ks : List Int) (hn : n ≤ 9223372036854775807) : Ok (sFail s n ks).2 := by
  unfold sFail
  split
  · exact h
  · split
    · exact h
    · exact h.set h.f s.off s.starts _ (fun n' ks' e => by simp only [Option.some.injEq, Prod.mk.injEq] at e; obtain ⟨rfl, rfl⟩ := e; exact ⟨by omega, List.length_take_le _ _⟩)
theorem ok_start {s : St} (h : Ok s) : Ok (sStart s).2 := by
  unfold sStart
  split
  · exact h.set h.f _ _ _ h.due
  · exact h
theorem ok_new {cap : Nat} (h1 : 1 ≤ cap) (h2 : cap ≤ 1048576) : Ok (sNew cap) :=
  ⟨h1, h2, List.Pairwise.nil, by simp [sNew], by simp [sNew], Nat.zero_le _, Nat.zero_le _, fun _ _ e => by cases e⟩
end Go.Proofs.YtmknbakfjhjfmaaGreatDoor.fil

/-! Files: words on memory: a block that is known whole; what has turned; a file system's blocks. -/
namespace Go.Proofs.YtmknbakfjhjfmaaGreatDoor.fil
open Go.RowKit Go.Lib Go.Maps
set_option linter.unusedVariables false
set_option linter.unusedSimpArgs false
set_option linter.unnecessarySimpa false
set_option linter.unusedSectionVars false

/-- Block g is just the cells cs of type t, none of them frozen. -/
def At (w : World) (g : Nat) (t : TypeId) (cs : Array Value) : Prop := w.heap[g]? = some (.cells cs t (0, 0))

section
variable {w w' : World} {g g' : Nat} {t t' : TypeId} {cs cs' : Array Value}
theorem At.lt (h : At w g t cs) : g < w.heap.size := (Array.getElem?_eq_some_iff.1 h).1
theorem At.cell (h : At w g t cs) (i : Nat) : w.cell? ⟨g, i, none⟩ = cs[i]? := cell_of_row w g i cs t (0, 0) h
theorem At.frozen (h : At w g t cs) (i : Nat) : w.frozen? ⟨g, i, none⟩ = false := by unfold At at h; simp [World.frozen?, h]
theorem At.new (w : World) (t : TypeId) (cs : Array Value) : At (w.alloc (.cells cs t)) w.heap.size t cs := heap_alloc_new w _
theorem At.alloc (h : At w g t cs) (o : Obj) : At (w.alloc o) g t cs := (Below.heap_alloc w o g h.lt).trans h
theorem At.same (h : At w g t cs) (hb : w'.heap[g]? = w.heap[g]?) : At w' g t cs := hb.trans h
theorem At.set (h : At w g t cs) (i : Nat) (u : Value) : At (w.setCell ⟨g, i, none⟩ u) g t (cs.setIfInBounds i u) := by
  unfold At at h ⊢
  simp [World.setCell, Array.getElem?_modify, h]
theorem At.far (h : At w g t cs) {p : Addr} (hp : g ≠ p.block) (u : Value) : At (w.setCell p u) g t cs := (Below.heap_setCell w p u g hp).trans h
theorem At.ne (h : At w g t cs) (h' : At w g' t' cs') (hne : t ≠ t') : g ≠ g' := by
  rintro rfl
  unfold At at h h'
  rw [h] at h'
  injection h' with h'
  injection h' with _ ht
  exact hne ht
theorem At.ne_map {P : Program} {k : TypeId} {R : Value → Option (DataW Unit × List MemPlace)} {n : Nat} {D : DataW Unit} (h : At w g t cs) (h' : w.ownsMap P k R g' n D) : g ≠ g' := by
  rintro rfl
  obtain ⟨es, clock, hb, _⟩ := h'
  unfold At at h
  rw [h] at hb
  cases hb
theorem own_at {base : Nat} {e : TypeId} {size n : Nat} {v : Value} {xs : List Value} (h : w.ownsRow base e size v n xs) {b : Nat} (hb : v.ownBlock = some b) : ∃ cs, At w b e cs := by
  rcases h.2 with ⟨rfl, _⟩ | ⟨g, cap, cur, rfl, _, hh, _⟩
  · cases hb
  · have : g = b := by simpa [Value.ownBlock] using hb
    subst this
    exact ⟨_, hh⟩
theorem own_ne {base : Nat} {e : TypeId} {size n : Nat} {v : Value} {xs : List Value} (h : w.ownsRow base e size v n xs) (hg : At w g t cs) (hne : e ≠ t) : v.ownBlock ≠ some g := by
  intro hb
  obtain ⟨c, hc⟩ := own_at h hb
  exact (At.ne hc hg hne) rfl
theorem own_same {base : Nat} {e : TypeId} {size n : Nat} {v : Value} {xs : List Value} (h : w.ownsRow base e size v n xs) (hb : ∀ b, v.ownBlock = some b → w'.heap[b]? = w.heap[b]?) : w'.ownsRow base e size v n xs := by
  refine ⟨h.1, ?_⟩
  rcases h.2 with h0 | ⟨g, cap, cur, rfl, hg, hh, r⟩
  · exact .inl h0
  · exact .inr ⟨g, cap, cur, rfl, hg, (hb g rfl).trans hh, r⟩
theorem own_base {base : Nat} {e : TypeId} {size n : Nat} {v : Value} {xs : List Value} (h : w.ownsRow base e size v n xs) : w.ownsRow 0 e size v n xs := by
  refine ⟨h.1, ?_⟩
  rcases h.2 with h0 | ⟨g, cap, cur, rfl, hg, r⟩
  · exact .inl h0
  · exact .inr ⟨g, cap, cur, rfl, Nat.zero_le _, r⟩
theorem map_same {P : Program} {k : TypeId} {R : Value → Option (DataW Unit × List MemPlace)} {b n : Nat} {D : DataW Unit} (h : w.ownsMap P k R b n D) (hb : w'.heap[b]? = w.heap[b]?) : w'.ownsMap P k R b n D := by
  obtain ⟨es, clock, h1, h2⟩ := h
  exact ⟨es, clock, hb.trans h1, h2⟩
end

/-- Of what lay there nothing has turned but in blocks of F. -/
structure Turned (F : Nat → Prop) (w w' : World) : Prop where
  os : w'.os = w.os
  tape : w'.tape = w.tape
  output : w'.output = w.output
  size : w.heap.size ≤ w'.heap.size
  block : ∀ k, k < w.heap.size → ¬ F k → w'.heap[k]? = w.heap[k]?

section
variable {F F' : Nat → Prop} {a b c w w' : World}
theorem Turned.refl (F : Nat → Prop) (w : World) : Turned F w w := ⟨rfl, rfl, rfl, Nat.le_refl _, fun _ _ _ => rfl⟩
theorem Turned.trans (h : Turned F a b) (k : Turned F' b c) (hF : ∀ i, F' i → F i ∨ a.heap.size ≤ i) : Turned F a c :=
  ⟨k.os.trans h.os, k.tape.trans h.tape, k.output.trans h.output, Nat.le_trans h.size k.size, fun i hi hn =>
    (k.block i (Nat.lt_of_lt_of_le hi h.size) (fun hf => (hF i hf).elim hn (fun h2 => by omega))).trans (h.block i hi hn)⟩
theorem Turned.of_below (h : Below w.heap.size w w') (F : Nat → Prop) : Turned F w w' := ⟨h.os, h.tape, h.output, h.size, fun i hi _ => h.block i hi⟩
theorem Turned.then_below (h : Turned F a b) (k : Below b.heap.size b c) : Turned F a c := h.trans (.of_below k (fun _ => False)) (fun _ h => h.elim)
theorem Turned.mono (h : Turned F w w') (hF : ∀ i, F i → F' i) : Turned F' w w' := ⟨h.os, h.tape, h.output, h.size, fun i hi hn => h.block i hi (fun hf => hn (hF i hf))⟩
theorem Turned.below (h : Turned F w w') {n : Nat} (hn : n ≤ w.heap.size) (hF : ∀ i, F i → n ≤ i) : Below n w w' :=
  ⟨h.os, h.tape, h.output, h.size, fun i hi => h.block i (by omega) (fun hf => by have := hF i hf; omega)⟩
theorem Turned.alloc (h : Turned F a w) (o : Obj) : Turned F a (w.alloc o) := h.then_below ((Below.refl _ _).alloc (Nat.le_refl _) o)
theorem Turned.drew (h : Turned F a w) : Turned F a w.drew := ⟨h.os, h.tape, h.output, h.size, h.block⟩
theorem Turned.drewN (h : Turned F a w) (n : Nat) : Turned F a (w.drewN n) := ⟨h.os, h.tape, h.output, h.size, h.block⟩
theorem Turned.setCell (h : Turned F a w) {p : Addr} (hp : F p.block ∨ a.heap.size ≤ p.block) (u : Value) : Turned F a (w.setCell p u) :=
  ⟨h.os, h.tape, h.output, by simpa using h.size, fun i hi hn => (Below.heap_setCell w p u i (by
    rintro rfl
    rcases hp with hp | hp
    · exact hn hp
    · omega)).trans (h.block i hi hn)⟩
theorem Turned.grown (h : Turned F a w) {row : Option Nat} (hg : w.grownBy w' row) (hr : ∀ k, row = some k → F k ∨ a.heap.size ≤ k) : Turned F a w' :=
  ⟨hg.os.trans h.os, hg.tape.trans h.tape, hg.output.trans h.output, Nat.le_trans h.size hg.size, fun i hi hn => (hg.block i (Nat.lt_of_lt_of_le hi h.size) (fun e => by
    rcases hr i e.symm with h2 | h2
    · exact hn h2
    · omega)).trans (h.block i hi hn)⟩
theorem Turned.at {g : Nat} {t : TypeId} {cs : Array Value} (h : Turned F w w') (hA : At w g t cs) (hn : ¬ F g) : At w' g t cs := hA.same (h.block g hA.lt hn)
end

/-- How a pointer to a block of its own is read. -/
def ptrE : Value → Option (DataW Unit × List MemPlace)
  | .pointer none => some (.lit (.int .i64 (-1)), [])
  | .pointer (some ⟨b, 0, none⟩) => some (.lit (.int .i64 b), [])
  | _ => none
theorem ptrE_some {v : Value} {b : Nat} {ps : List MemPlace} (h : ptrE v = some (.lit (.int .i64 b), ps)) : v = .pointer (some ⟨b, 0, none⟩) := by
  unfold ptrE at h
  split at h
  · simp at h
  · simp at h; obtain ⟨h, _⟩ := h; rw [Int.ofNat.inj h]
  · cases h
theorem ptrE_none {v : Value} {ps : List MemPlace} (h : ptrE v = some (.lit (.int .i64 (-1)), ps)) : v = .pointer none := by
  unfold ptrE at h
  split at h
  · rfl
  · simp at h
  · cases h
theorem ptrE_shape {v : Value} {y : DataW Unit × List MemPlace} (h : ptrE v = some y) : ∃ o : Option Nat, v = .pointer (o.map fun b => ⟨b, 0, none⟩) := by
  unfold ptrE at h
  split at h
  · exact ⟨none, rfl⟩
  · exact ⟨some _, rfl⟩
  · cases h

/-- A file, the block in which it lies, and the slice that its bytes are. -/
structure Gf where
  f : Fl
  blk : Nat
  v : Value

/-- The map D has just the files of G, each at its name. -/
structure MapIs (D : DataW Unit) (G : List Gf) : Prop where
  keys : ∀ kl, Maps.has D kl = true ↔ ∃ g ∈ G, kl = .string g.f.name
  vals : ∀ g ∈ G, ∀ z, D.atKey (.string g.f.name) z = .lit (.int .i64 g.blk)
  size : Maps.size D = G.length
theorem MapIs.start : MapIs (.map []) [] := ⟨fun kl => by simp [Maps.has], by simp, rfl⟩
theorem keyLit (b : List UInt8) : WideAt.IsKeyLit (.string b) := by first | trivial | simp [WideAt.IsKeyLit]
theorem MapIs.miss {D : DataW Unit} {G : List Gf} (h : MapIs D G) {nm : List UInt8} (hn : ∀ g ∈ G, g.f.name ≠ nm) : Maps.has D (.string nm) = false := by
  cases hh : Maps.has D (.string nm)
  · rfl
  · obtain ⟨g, hg, e⟩ := (h.keys _).1 hh
    injection e with e
    exact absurd e.symm (hn g hg)
theorem MapIs.other {D : DataW Unit} {G : List Gf} (h : MapIs D G) (nm : List UInt8) (hD : Maps.Tidy D) {G' : List Gf} (hm : ∀ g, g ∈ G' ↔ g ∈ G ∧ g.f.name ≠ nm) (hl : G'.length + (if Maps.has D (.string nm) then 1 else 0) = G.length) : MapIs (D.del (.string nm)) G' := by
  refine ⟨fun kl => ?_, fun g hg z => ?_, ?_⟩
  · by_cases e : kl = .string nm
    · subst e
      rw [has_del_same]
      refine ⟨fun h => (by cases h), fun ⟨g, hg, e⟩ => ?_⟩
      injection e with e
      exact absurd e.symm ((hm g).1 hg).2
    · rw [has_del_other e, h.keys]
      constructor
      · rintro ⟨g, hg, rfl⟩
        exact ⟨g, (hm g).2 ⟨hg, fun e2 => e (by rw [e2])⟩, rfl⟩
      · rintro ⟨g, hg, rfl⟩
        exact ⟨g, ((hm g).1 hg).1, rfl⟩
  · obtain ⟨h1, h2⟩ := (hm g).1 hg
    rw [atKey_del_other (fun e => h2 (by injection e))]
    exact h.vals g h1 z
  · have := size_del (k := .string nm) hD
    rw [h.size] at this
    omega
theorem MapIs.put {D : DataW Unit} {G : List Gf} (h : MapIs D G) (hD : Maps.Tidy D) (g : Gf) {G' : List Gf} (hm : ∀ x, x ∈ G' ↔ x = g ∨ (x ∈ G ∧ x.f.name ≠ g.f.name)) (hl : G'.length = if Maps.has D (.string g.f.name) then G.length else G.length + 1) :
    MapIs (D.put (.string g.f.name) (.lit (.int .i64 g.blk))) G' := by
  refine ⟨fun kl => ?_, fun x hx z => ?_, ?_⟩
  · by_cases e : kl = .string g.f.name
    · subst e
      rw [has_put_same hD.isMap (keyLit _)]
      exact ⟨fun _ => ⟨g, (hm g).2 (.inl rfl), rfl⟩, fun _ => rfl⟩
    · rw [has_put_other e, h.keys]
      constructor
      · rintro ⟨x, hx, rfl⟩
        exact ⟨x, (hm x).2 (.inr ⟨hx, fun e2 => e (by rw [e2])⟩), rfl⟩
      · rintro ⟨x, hx, rfl⟩
        rcases (hm x).1 hx with rfl | hx
        · exact absurd rfl e
        · exact ⟨x, hx.1, rfl⟩
  · rcases (hm x).1 hx with rfl | ⟨h1, h2⟩
    · exact atKey_put_same hD.isMap (keyLit _) _ _
    · rw [atKey_put_other (fun e => h2 (by injection e))]
      exact h.vals x h1 z
  · rw [size_put hD, hl, h.size]
theorem MapIs.perm {D : DataW Unit} {G : List Gf} (h : MapIs D G) {n b : Nat} {w : World} (hown : w.ownsMap Tryz.prog 9 ptrE b n D) (hn : (G.map fun g => g.f.name).Nodup) : (G.map fun g => g.f.name).Perm (strKeys D) := by
  obtain ⟨es, rfl, hp, hk⟩ := hown.entries (string_keyed Tryz.underlying9)
  refine perm_strKeys hp (fun p hp' => ?_) hn (fun x => ?_)
  · have : Maps.has (DataW.map es) p.1 = true := by
      rw [has_eq, List.any_eq_true]
      exact ⟨p, hp', WideAt.sameKey_self (hk p hp')⟩
    obtain ⟨g, _, e⟩ := (h.keys _).1 this
    exact ⟨_, e⟩
  · rw [h.keys, List.mem_map]
    constructor
    · rintro ⟨g, hg, rfl⟩
      exact ⟨g, hg, rfl⟩
    · rintro ⟨g, hg, e⟩
      injection e with e
      exact ⟨g, hg, e.symm⟩

def bv (l : List UInt8) : List Value := l.map fun c => Value.int .u8 c.toNat
theorem bv_length (l : List UInt8) : (bv l).length = l.length := by simp [bv]
theorem bv_append (a b : List UInt8) : bv (a ++ b) = bv a ++ bv b := by simp [bv]
theorem bv_take (l : List UInt8) (n : Nat) : bv (l.take n) = (bv l).take n := by simp [bv]
theorem bv_cells (s : ByteArray) : strCells s = bv s.data.toList := rfl
def iv (l : List Int) : List Value := l.map (Value.int .i64)
theorem iv_length (l : List Int) : (iv l).length = l.length := by simp [iv]

structure FileAt (w : World) (F : Nat → Prop) (g : Gf) : Prop where
  blk : At w g.blk 85 #[g.v, .int .i64 g.f.plat]
  mine : F g.blk
  row : w.ownsRow 0 5 1 g.v g.f.bytes.length (bv g.f.bytes)
  rowMine : ∀ b, g.v.ownBlock = some b → F b

/-- The crash that is due. q: its count is what it should be (else it is turned already by the stroke that crashes). -/
def DueAt (q : Bool) (w : World) (F : Nat → Prop) (p : Option Addr) : Option (Nat × List Int) → Prop
  | none => p = none
  | some (n, ks) => ∃ b v z, p = some ⟨b, 0, none⟩ ∧ At w b 116 #[.int .i64 z, v] ∧ F b ∧ w.ownsRow 0 3 1 v ks.length (iv ks) ∧ (∀ x, v.ownBlock = some x → F x) ∧ (q = true → z = (n : Int))

/-- A file system's blocks, all of them blocks of F. -/
structure Fz q (w : World) (fb mb : Nat) (D : DataW Unit) (G : List Gf) (dp : Option Addr) (s : St) (F : Nat → Prop) : Prop where
  ok : Ok s
  head : At w fb 65 #[.int .i64 s.cap, .map (some mb), .bool s.off, .int .i64 s.starts, .pointer dp]
  map : w.ownsMap Tryz.prog 9 ptrE mb G.length D
  isMap : MapIs D G
  files : s.files = G.map (·.f)
  each : ∀ g ∈ G, FileAt w F g
  apart : G.Pairwise fun a b => a.blk ≠ b.blk ∧ ∀ x, a.v.ownBlock = some x → b.v.ownBlock ≠ some x
  due : DueAt q w F dp s.due
  mineF : F fb
  mineM : F mb
  lt : ∀ b, F b → b < w.heap.size
abbrev Fs := Fz true
def IsFz (q : Bool) (w : World) (fb : Nat) (s : St) (F : Nat → Prop) : Prop := ∃ mb D G dp, Fz q w fb mb D G dp s F
abbrev IsFs := IsFz true

section
variable {q : Bool} {w w' : World} {F F' : Nat → Prop} {g : Gf} {p : Option Addr} {d : Option (Nat × List Int)} {fb mb : Nat} {D : DataW Unit} {G : List Gf} {s : St}
theorem FileAt.same (h : FileAt w F g) (hb : ∀ b, F b → w'.heap[b]? = w.heap[b]?) : FileAt w' F g :=
  ⟨h.blk.same (hb _ h.mine), h.mine, own_same h.row (fun b e => hb b (h.rowMine b e)), h.rowMine⟩
theorem FileAt.mono (h : FileAt w F g) (hF : ∀ b, F b → F' b) : FileAt w F' g := ⟨h.blk, hF _ h.mine, h.row, fun b e => hF b (h.rowMine b e)⟩
theorem FileAt.kept (h : FileAt w F g) (h1 : w'.heap[g.blk]? = w.heap[g.blk]?) (h2 : ∀ b, g.v.ownBlock = some b → w'.heap[b]? = w.heap[b]?) : FileAt w' F g :=
  ⟨h.blk.same h1, h.mine, own_same h.row h2, h.rowMine⟩
theorem DueAt.same (h : DueAt q w F p d) (hb : ∀ b, F b → w'.heap[b]? = w.heap[b]?) : DueAt q w' F p d := by
  rcases d with _ | ⟨n, ks⟩
  · exact h
  · obtain ⟨b, v, z, e, h1, h2, h3, h4, h5⟩ := h
    exact ⟨b, v, z, e, h1.same (hb b h2), h2, own_same h3 (fun x e => hb x (h4 x e)), h4, h5⟩
theorem DueAt.mono (h : DueAt q w F p d) (hF : ∀ b, F b → F' b) : DueAt q w F' p d := by
  rcases d with _ | ⟨n, ks⟩
  · exact h
  · obtain ⟨b, v, z, e, h1, h2, h3, h4, h5⟩ := h
    exact ⟨b, v, z, e, h1, hF b h2, h3, fun x e => hF x (h4 x e), h5⟩
/-- What is due stays while blocks of another type turn. -/
theorem DueAt.kept (h : DueAt q w F p d) (hb : ∀ b t cs, At w b t cs → t = 116 ∨ t = 3 → w'.heap[b]? = w.heap[b]?) : DueAt q w' F p d := by
  rcases d with _ | ⟨n, ks⟩
  · exact h
  · obtain ⟨b, v, z, e, h1, h2, h3, h4, h5⟩ := h
    refine ⟨b, v, z, e, h1.same (hb b _ _ h1 (.inl rfl)), h2, own_same h3 (fun x e => ?_), h4, h5⟩
    obtain ⟨cs, hx⟩ := own_at h3 e
    exact hb x _ _ hx (.inr rfl)
theorem Fz.same (h : Fz q w fb mb D G p s F) (hb : ∀ b, F b → w'.heap[b]? = w.heap[b]?) (hs : w.heap.size ≤ w'.heap.size) : Fz q w' fb mb D G p s F :=
  ⟨h.ok, h.head.same (hb _ h.mineF), map_same h.map (hb _ h.mineM), h.isMap, h.files, fun g hg => (h.each g hg).same hb, h.apart, h.due.same hb, h.mineF, h.mineM, fun b hF => Nat.lt_of_lt_of_le (h.lt b hF) hs⟩
theorem Fz.below (h : Fz q w fb mb D G p s F) (hB : Below w.heap.size w w') : Fz q w' fb mb D G p s F := h.same (fun b hF => hB.block b (h.lt b hF)) hB.size
theorem Fz.mono (h : Fz q w fb mb D G p s F) (hF : ∀ b, F b → F' b) (hl : ∀ b, F' b → b < w.heap.size) : Fz q w fb mb D G p s F' :=
  ⟨h.ok, h.head, h.map, h.isMap, h.files, fun g hg => (h.each g hg).mono hF, h.apart, h.due.mono hF, hF _ h.mineF, hF _ h.mineM, hl⟩
theorem IsFz.below (h : IsFz q w fb s F) (hB : Below w.heap.size w w') : IsFz q w' fb s F := by
  obtain ⟨mb, D, G, dp, h⟩ := h
  exact ⟨mb, D, G, dp, h.below hB⟩
theorem IsFz.lt (h : IsFz q w fb s F) : ∀ b, F b → b < w.heap.size := by
  obtain ⟨mb, D, G, dp, h⟩ := h
  exact h.lt
theorem IsFz.ok (h : IsFz q w fb s F) : Ok s := by
  obtain ⟨mb, D, G, dp, h⟩ := h
  exact h.ok
/-- Another system's turning leaves this one. -/
theorem IsFz.apart (h : IsFz q w fb s F) (hT : Turned F' w w') (hn : ∀ b, F b → ¬ F' b) : IsFz q w' fb s F := by
  obtain ⟨mb, D, G, dp, h⟩ := h
  exact ⟨mb, D, G, dp, h.same (fun b hF => hT.block b (h.lt b hF) (hn b hF)) hT.size⟩
end

/-- What a call that turns a file system leaves: the system as s, of blocks that it had, and new ones; all else is as it was. -/
def Wentz (q : Bool) (F : Nat → Prop) (fb : Nat) (s : St) (w w' : World) : Prop := Turned F w w' ∧ ∃ F', (∀ b, F' b → F b ∨ w.heap.size ≤ b) ∧ IsFz q w' fb s F'
abbrev Went := Wentz true
theorem Wentz.refl {q : Bool} {F : Nat → Prop} {fb : Nat} {s : St} {w : World} (h : IsFz q w fb s F) : Wentz q F fb s w w := ⟨.refl F w, F, fun _ h => .inl h, h⟩
theorem Wentz.of_below {q : Bool} {F : Nat → Prop} {fb : Nat} {s : St} {w w' : World} (h : IsFz q w fb s F) (hB : Below w.heap.size w w') : Wentz q F fb s w w' := ⟨.of_below hB F, F, fun _ h => .inl h, h.below hB⟩
end Go.Proofs.YtmknbakfjhjfmaaGreatDoor.fil

/-! Files: what is asked of a file system that is one, and of one that is none: the small ones. -/
namespace Go.Proofs.YtmknbakfjhjfmaaGreatDoor.fil
open Go.RowKit Go.Lib Go.Maps Go.WideMaps
set_option linter.unusedVariables false
set_option linter.unusedSimpArgs false
set_option linter.unnecessarySimpa false
set_option linter.unusedSectionVars false

theorem zeroP (w : World) : (zeroValue 82).run Tryz.prog w = .ok (.pointer none) w := by kernel_rfl

section
variable {q : Bool} {w : World} {F : Nat → Prop} {p : Option Addr} {fb mb : Nat} {D : DataW Unit} {G : List Gf} {s : St}
theorem Fz.cells (h : Fz q w fb mb D G p s F) : w.cell? ⟨fb, 0, none⟩ = some (.int .i64 s.cap) ∧ w.cell? ⟨fb, 1, none⟩ = some (.map (some mb)) ∧ w.cell? ⟨fb, 2, none⟩ = some (.bool s.off) ∧
    w.cell? ⟨fb, 3, none⟩ = some (.int .i64 s.starts) ∧ w.cell? ⟨fb, 4, none⟩ = some (.pointer p) ∧ ∀ i, w.frozen? ⟨fb, i, none⟩ = false :=
  ⟨h.head.cell 0, h.head.cell 1, h.head.cell 2, h.head.cell 3, h.head.cell 4, h.head.frozen⟩
theorem Fz.drewN (h : Fz q w fb mb D G p s F) (n : Nat) : Fz q (w.drewN n) fb mb D G p s F := h.same (fun _ _ => rfl) (Nat.le_refl _)
theorem Fz.drew (h : Fz q w fb mb D G p s F) : Fz q w.drew fb mb D G p s F := h.same (fun _ _ => rfl) (Nat.le_refl _)
theorem Fz.look0 (h : Fz q w fb mb D G p s F) (nm : ByteArray) (hn : nm.size ≤ maxLen) (hf : find s.files nm.data.toList = none) :
    (Instr.lookup 62 (.map (some mb)) (.string nm) false).run Tryz.prog w = .ok (.pointer none) w := by
  obtain ⟨v, ps, hrun, hv⟩ := h.map.lookup (string_keyed Tryz.underlying9) Tryz.underlying62 (zeroP w) (zd := .lit (.int .i64 (-1))) (zp := []) rfl (keyOf_string_mk Tryz.underlying9 hn)
  have hm : Maps.has D (.string nm.data.toList) = false := h.isMap.miss (fun g hg e => find_none.1 hf g.f (by rw [h.files]; exact List.mem_map_of_mem hg) e)
  rw [atKey_of_not_has hm] at hv
  rw [hrun, ptrE_none hv]
theorem Fz.look1 (h : Fz q w fb mb D G p s F) (nm : ByteArray) (hn : nm.size ≤ maxLen) {g : Gf} (hg : g ∈ G) (he : g.f.name = nm.data.toList) :
    (Instr.lookup 62 (.map (some mb)) (.string nm) false).run Tryz.prog w = .ok (.pointer (some ⟨g.blk, 0, none⟩)) w := by
  obtain ⟨v, ps, hrun, hv⟩ := h.map.lookup (string_keyed Tryz.underlying9) Tryz.underlying62 (zeroP w) (zd := .lit (.int .i64 (-1))) (zp := []) rfl (keyOf_string_mk Tryz.underlying9 hn)
  rw [← he, h.isMap.vals g hg] at hv
  rw [hrun, ptrE_some hv]
theorem Fz.has (h : Fz q w fb mb D G p s F) {x : Fl} {nm : List UInt8} (hf : find s.files nm = some x) : ∃ g ∈ G, g.f = x ∧ g.f.name = nm := by
  obtain ⟨h1, h2⟩ := find_mem hf
  rw [h.files] at h1
  obtain ⟨g, hg, rfl⟩ := List.mem_map.1 h1
  exact ⟨g, hg, rfl, h2⟩
end

/-- One that is none: nil, or one that New did not make. -/
def NoFs (w : World) (p : Option Addr) : Prop := p = none ∨ ∃ fb, p = some ⟨fb, 0, none⟩ ∧ At w fb 65 #[.int .i64 0, .map none, .bool false, .int .i64 0, .pointer none]

theorem isNone_no (p : Option Addr) (w : World) (h : NoFs w p) : Calls Tryz.prog 35 #[.pointer p] w fun e w' => e = .returned (.bool true) ∧ w = w' := by
  rcases h with rfl | ⟨fb, rfl, h⟩
  · go_enter Tryz.func35, Tryz.ntmps35
    go_wp2
    go_ret
    exact ⟨rfl, rfl⟩
  · have c0 : w.cell? ⟨fb, 0, none⟩ = some (.int .i64 0) := h.cell 0
    clear h
    go_enter Tryz.func35, Tryz.ntmps35
    go_wp2
    go_ret
    exact ⟨rfl, rfl⟩

section
variable {q : Bool} {F : Nat → Prop} {fb mb : Nat} {D : DataW Unit} {G : List Gf} {p : Option Addr} {s : St}
theorem isNone_is (w : World) (h : Fz q w fb mb D G p s F) : Calls Tryz.prog 35 #[.pointer (some ⟨fb, 0, none⟩)] w fun e w' => e = .returned (.bool false) ∧ w = w' := by
  have c0 := h.cells.1
  have hc : ((s.cap : Int) == 0) = false := by have := h.ok.cap1; simp; omega
  clear h
  go_enter Tryz.func35, Tryz.ntmps35
  go_wp2
  go_ret
  exact ⟨rfl, rfl⟩

theorem useless_no (p : Option Addr) (w : World) (h : NoFs w p) : Calls Tryz.prog 31 #[.pointer p] w fun e w' => e = .returned (.int .i64 1) ∧ w = w' := by
  have C := Lib.hid (isNone_no p w h)
  clear h
  go_enter Tryz.func31, Tryz.ntmps31
  go_wp2_with (go_at_call 35; refine C.out.mono ?_; rintro e w' ⟨rfl, rfl⟩)
  go_ret
  exact ⟨rfl, rfl⟩

/-- What stands against whatever is asked of a system: it is off. -/
def down (s : St) : Int := if s.off = true then 51 else 0
theorem useless_is (w : World) (h : Fz q w fb mb D G p s F) : Calls Tryz.prog 31 #[.pointer (some ⟨fb, 0, none⟩)] w fun e w' => e = .returned (.int .i64 (down s)) ∧ w = w' := by
  have C := Lib.hid (isNone_is w h)
  have c2 := h.cells.2.2.1
  unfold down
  rcases hb : s.off with _ | _
  · rw [hb] at c2
    clear h hb
    go_enter Tryz.func31, Tryz.ntmps31
    go_wp2_with (go_at_call 35; refine C.out.mono ?_; rintro e w' ⟨rfl, rfl⟩)
    go_ret
    exact ⟨rfl, rfl⟩
  · rw [hb] at c2
    clear h hb
    go_enter Tryz.func31, Tryz.ntmps31
    go_wp2_with (go_at_call 35; refine C.out.mono ?_; rintro e w' ⟨rfl, rfl⟩)
    go_ret
    exact ⟨rfl, rfl⟩

set_option maxRecDepth 100000 in
theorem missing_is (nm : ByteArray) (w : World) (hn : nm.size ≤ maxLen) (h : Fz q w fb mb D G p s F) :
    Calls Tryz.prog 49 #[.pointer (some ⟨fb, 0, none⟩), .string nm] w fun e w' => e = .returned (.int .i64 (errThere s nm.data.toList)) ∧ w = w' := by
  have c1 := h.cells.2.1
  unfold errThere
  rcases hf : find s.files nm.data.toList with _ | x
  · have L := h.look0 nm hn hf
    clear h hf
    go_enter Tryz.func49, Tryz.ntmps49
    go_wp2
    go_ret
    exact ⟨rfl, rfl⟩
  · obtain ⟨g, hg, rfl, he⟩ := h.has hf
    have L := h.look1 nm hn hg he
    clear h hf he hg
    go_enter Tryz.func49, Tryz.ntmps49
    go_wp2
    go_ret
    exact ⟨rfl, rfl⟩

theorem inAir_is (w : World) {g : Gf} (h : FileAt w F g) (hp : g.f.plat ≤ g.f.bytes.length) (hl : g.f.bytes.length ≤ 1048576) :
    Calls Tryz.prog 56 #[.pointer (some ⟨g.blk, 0, none⟩)] w fun e w' => e = .returned (.int .i64 ((g.f.bytes.length - g.f.plat : Nat) : Int)) ∧ ∃ n, w' = w.drewN n := by
  have c0 : w.cell? ⟨g.blk, 0, none⟩ = some g.v := h.blk.cell 0
  have c1 : w.cell? ⟨g.blk, 1, none⟩ = some (.int .i64 g.f.plat) := h.blk.cell 1
  obtain ⟨A, c, hv⟩ : ∃ A c, g.v = .slice A g.f.bytes.length c := by
    rcases h.row.2 with ⟨hv, h0⟩ | ⟨b, cap, _, hv, _⟩
    · exact ⟨none, 0, by rw [hv, h0]⟩
    · exact ⟨_, _, hv⟩
  rw [hv] at c0
  clear h hv
  generalize g.f.bytes.length = n at *
  generalize g.f.plat = k at *
  generalize g.blk = b at *
  go_enter Tryz.func56, Tryz.ntmps56
  go_wp2
  go_quiet (fail)
  go_wp2
  go_ret
  exact ⟨ret_int (by omega), _, rfl⟩

theorem isName_is (nm : ByteArray) (w : World) (hn : nm.size ≤ maxLen) : Calls Tryz.prog 45 #[.string nm] w fun e w' => e = .returned (.bool (isNm nm.data.toList)) ∧ w = w' := by
  have hb : nm.size ≤ 9223372036854775807 := by unfold maxLen at hn; omega
  have hz : nm.data.toList.length = nm.size := by rw [Array.length_toList]; rfl
  unfold isNm
  rw [hz]
  by_cases h0 : nm.size = 0
  · obtain rfl : nm = ⟨#[]⟩ := by
      cases nm with
      | mk d => congr; exact Array.eq_empty_of_size_eq_zero h0
    go_enter Tryz.func45, Tryz.ntmps45
    go_wp2
    go_ret
    exact ⟨rfl, rfl⟩
  · have he' : ¬ nm.data.toList = [] := fun e => by rw [e] at hz; simp at hz; omega
    have he : ¬ nm.toList = [] := by rw [Lib.toList_data]; exact he'
    have he2 : nm.toList.isEmpty = false := by rw [Lib.toList_data]; simpa using he'
    clear he'
    have hq : decide (1 ≤ nm.size) = true := by simp; omega
    rw [hq]
    clear hz
    go_enter Tryz.func45, Tryz.ntmps45
    go_wp2
    go_ret
    exact ⟨ret_bool (by simp; omega), rfl⟩
end
end Go.Proofs.YtmknbakfjhjfmaaGreatDoor.fil

/-! Files: what a file system tells: its files' bytes, whether it is on, how many starts were, its size, whether there is room. -/
namespace Go.Proofs.YtmknbakfjhjfmaaGreatDoor.fil
open Go.RowKit Go.Lib Go.Maps Go.WideMaps
set_option linter.unusedVariables false
set_option linter.unusedSimpArgs false
set_option linter.unnecessarySimpa false
set_option linter.unusedSectionVars false

section
variable {q : Bool} {F : Nat → Prop} {fb mb : Nat} {D : DataW Unit} {G : List Gf} {dp : Option Addr} {s : St}

theorem up_no (p : Option Addr) (w : World) (h : NoFs w p) : Calls Tryz.prog 36 #[.pointer p] w fun e w' => e = .returned (.bool false) ∧ w = w' := by
  have C := Lib.hid (isNone_no p w h)
  clear h
  go_enter Tryz.func36, Tryz.ntmps36
  go_wp2_with (go_at_call 35; refine C.out.mono ?_; rintro e w' ⟨rfl, rfl⟩)
  go_ret
  exact ⟨rfl, rfl⟩
theorem up_is (w : World) (h : Fz q w fb mb D G dp s F) : Calls Tryz.prog 36 #[.pointer (some ⟨fb, 0, none⟩)] w fun e w' => e = .returned (.bool (!s.off)) ∧ w = w' := by
  have C := Lib.hid (isNone_is w h)
  have c2 := h.cells.2.2.1
  clear h
  go_enter Tryz.func36, Tryz.ntmps36
  go_wp2_with (go_at_call 35; refine C.out.mono ?_; rintro e w' ⟨rfl, rfl⟩)
  go_ret
  exact ⟨rfl, rfl⟩

theorem starts_no (p : Option Addr) (w : World) (h : NoFs w p) : Calls Tryz.prog 28 #[.pointer p] w fun e w' => e = .returned (.int .i64 0) ∧ w = w' := by
  have C := Lib.hid (isNone_no p w h)
  clear h
  go_enter Tryz.func28, Tryz.ntmps28
  go_wp2_with (go_at_call 35; refine C.out.mono ?_; rintro e w' ⟨rfl, rfl⟩)
  go_ret
  exact ⟨rfl, rfl⟩
theorem starts_is (w : World) (h : Fz q w fb mb D G dp s F) : Calls Tryz.prog 28 #[.pointer (some ⟨fb, 0, none⟩)] w fun e w' => e = .returned (.int .i64 s.starts) ∧ w = w' := by
  have C := Lib.hid (isNone_is w h)
  have c3 := h.cells.2.2.2.1
  clear h
  go_enter Tryz.func28, Tryz.ntmps28
  go_wp2_with (go_at_call 35; refine C.out.mono ?_; rintro e w' ⟨rfl, rfl⟩)
  go_ret
  exact ⟨rfl, rfl⟩

/-! ### Read -/
/-- What Read tells. -/
def reads (s : St) (nm : List UInt8) : List UInt8 × Int :=
  if s.off = true then ([], 51) else match find s.files nm with | none => ([], 4) | some x => (x.bytes, 0)
theorem read_no (p : Option Addr) (nm : ByteArray) (w : World) (h : NoFs w p) : Calls Tryz.prog 33 #[.pointer p, .string nm] w fun e w' => e = .returned (.tuple #[.string ⟨#[]⟩, .int .i64 1]) ∧ w = w' := by
  have C := Lib.hid (useless_no p w h)
  clear h
  go_enter Tryz.func33, Tryz.ntmps33
  go_wp2_with (go_at_call 31; refine C.out.mono ?_; rintro e w' ⟨rfl, rfl⟩)
  go_ret2
  exact ⟨rfl, rfl⟩
theorem own_form {w : World} {base e n : Nat} {v : Value} {xs : List Value} (h : w.ownsRow base e 1 v n xs) : ∃ A c, v = .slice A n c := by
  rcases h.2 with ⟨hv, h0⟩ | ⟨b, cap, _, hv, _⟩
  · exact ⟨none, 0, by rw [hv, h0]⟩
  · exact ⟨_, _, hv⟩
/-- A row of bytes as a text. -/
theorem row_text (w : World) {v : Value} {l : List UInt8} (h : w.ownsRow 0 5 1 v l.length (bv l)) : (convert 83 9 v).run Tryz.prog w = .ok (.string (B l)) w := by
  rcases h.2 with ⟨rfl, h0⟩ | ⟨g, cap, cur, rfl, _⟩
  · obtain rfl : l = [] := List.eq_nil_of_length_eq_zero h0
    exact run_convert_bytes_nil w 83 5 Tryz.underlying83 Tryz.underlying5 0 0 9 Tryz.underlying9
  · refine run_convert_bytes_back (P := Tryz.prog) w 83 9 5 ⟨g, 0, none⟩ cap l Tryz.underlying83 Tryz.underlying5 Tryz.underlying9 (fun j hj => ?_)
    refine h.cells (g := g) rfl j _ ?_
    simp [bv, List.getElem?_eq_getElem hj]

set_option maxRecDepth 100000 in
theorem read_is (nm : ByteArray) (w : World) (hn : nm.size ≤ maxLen) (h : Fz q w fb mb D G dp s F) :
    Calls Tryz.prog 33 #[.pointer (some ⟨fb, 0, none⟩), .string nm] w fun e w' => e = .returned (.tuple #[.string (B (reads s nm.data.toList).1), .int .i64 (reads s nm.data.toList).2]) ∧ w = w' := by
  have C := Lib.hid (useless_is w h)
  have C2 := Lib.hid (missing_is nm w hn h)
  have c1 := h.cells.2.1
  unfold down at C
  unfold reads
  rcases hb : s.off with _ | _
  · rw [hb] at C
    unfold errThere at C2
    rcases hf : find s.files nm.data.toList with _ | x
    · rw [hf] at C2
      clear h hb hf
      go_enter Tryz.func33, Tryz.ntmps33
      go_wp2_with (first | (go_at_call 31; refine C.out.mono ?_; rintro e w' ⟨rfl, rfl⟩) | (go_at_call 49; refine C2.out.mono ?_; rintro e w' ⟨rfl, rfl⟩))
      go_ret2
      exact ⟨rfl, rfl⟩
    · rw [hf] at C2
      obtain ⟨g, hg, rfl, he⟩ := h.has hf
      have L := h.look1 nm hn hg he
      have T := row_text w (h.each g hg).row
      have k0 : w.cell? ⟨g.blk, 0, none⟩ = some g.v := (h.each g hg).blk.cell 0
      clear h hb hf hg he
      generalize g.blk = b at *
      generalize g.v = v at *
      go_enter Tryz.func33, Tryz.ntmps33
      go_wp2_with (first | (go_at_call 31; refine C.out.mono ?_; rintro e w' ⟨rfl, rfl⟩) | (go_at_call 49; refine C2.out.mono ?_; rintro e w' ⟨rfl, rfl⟩))
      go_ret2
      exact ⟨rfl, rfl⟩
  · rw [hb] at C
    clear h hb C2
    go_enter Tryz.func33, Tryz.ntmps33
    go_wp2_with (go_at_call 31; refine C.out.mono ?_; rintro e w' ⟨rfl, rfl⟩)
    go_ret2
    exact ⟨rfl, rfl⟩
end
end Go.Proofs.YtmknbakfjhjfmaaGreatDoor.fil
