/- Saves: what the document says of a text that is written, loaded and cleaned, over the pure file system. Nothing of the program is used. -/
import Derived.Test.YtlbhegicapggeaaGreatFilPure
namespace Go.Proofs.YtlbhegicapggeaaGreat.sav
open fil
set_option linter.unusedVariables false
set_option linter.unusedSimpArgs false
set_option linter.unnecessarySimpa false
set_option linter.unusedSectionVars false

/-- The draft's name. -/
def dn : List UInt8 := [126]
def isTx (nm : List UInt8) : Bool := isNm nm && !(nm == dn)
def sAgainst (s : St) (nm : List UInt8) : Int := if s.off = true then 51 else if isTx nm = true then 0 else 2
def sClean (s : St) : Int × St := (if (sRemove s dn).1 = 4 then 0 else (sRemove s dn).1, (sRemove s dn).2)
def sLoad (s : St) (nm : List UInt8) : List UInt8 × Int :=
  if s.off = true then ([], 51) else if isTx nm = true then (match find s.files nm with | none => ([], 4) | some x => (x.bytes, 0)) else ([], 2)
/-- One thing behind another, up to the first error. -/
def andThen (r : Int × St) (f : St → Int × St) : Int × St := if r.1 = 0 then f r.2 else r
def sWrite (s : St) (nm t : List UInt8) : Int × St :=
  andThen (sAgainst s nm, s) fun s => andThen (sClean s) fun s => andThen (sAppend s dn t) fun s => andThen (sSync s dn) fun s => sRename s dn nm

theorem dn_nm : isNm dn = true := rfl
theorem isTx_nm {nm : List UInt8} (h : isTx nm = true) : isNm nm = true ∧ nm ≠ dn := by
  simpa [isTx] using h

/-! ### What stays -/
theorem stroke_starts' (s : St) (e : Int) (early : Bool) (t : List Fl) : (stroke s e early t).2.starts = s.starts := by
  unfold stroke crash
  repeat' split
  all_goals rfl
theorem stroke_cap' (s : St) (e : Int) (early : Bool) (t : List Fl) : (stroke s e early t).2.cap = s.cap := by
  unfold stroke crash
  repeat' split
  all_goals rfl
theorem andThen_starts {r : Int × St} {f : St → Int × St} {n : Nat} (h : r.2.starts = n) (hf : (f r.2).2.starts = r.2.starts) : (andThen r f).2.starts = n := by
  unfold andThen; split
  · exact hf.trans h
  · exact h
theorem clean_starts (s : St) : (sClean s).2.starts = s.starts := stroke_starts' _ _ _ _
theorem write_starts (s : St) (nm t : List UInt8) : (sWrite s nm t).2.starts = s.starts := by
  unfold sWrite
  refine andThen_starts rfl (andThen_starts (clean_starts s) (andThen_starts (stroke_starts' _ _ _ _) (andThen_starts (stroke_starts' _ _ _ _) (stroke_starts' _ _ _ _))))
theorem andThen_ok {r : Int × St} {f : St → Int × St} (h : Ok r.2) (hf : Ok r.2 → Ok (f r.2).2) : Ok (andThen r f).2 := by
  unfold andThen; split
  · exact hf h
  · exact h
theorem ok_clean {s : St} (h : Ok s) : Ok (sClean s).2 := ok_remove h dn
theorem ok_write {s : St} (h : Ok s) (nm t : List UInt8) : Ok (sWrite s nm t).2 := by
  unfold sWrite
  exact andThen_ok h fun h => andThen_ok (ok_clean h) fun h => andThen_ok (ok_append h _ _) fun h => andThen_ok (ok_sync h _) fun h => ok_rename h _ _

/-! ### A crash leaves what is whole -/
theorem cut_whole (k : Int) {x : Fl} (h : x.plat = x.bytes.length) : cut1 k x = x := by
  have e : keepN k x = x.bytes.length := by unfold keepN; omega
  obtain ⟨n, b, p⟩ := x
  unfold cut1
  rw [e]
  simp only at h ⊢
  rw [List.take_length, h]
theorem find_lose : ∀ (ks : List Int) (l : List Fl) (nm : List UInt8), ∃ k, find (lose ks l) nm = (find l nm).map (cut1 k)
  | _, [], _ => ⟨0, rfl⟩
  | ks, x :: r, nm => by
    obtain ⟨k, hk⟩ := find_lose ks.tail r nm
    unfold find at hk ⊢
    rw [lose, List.find?_cons, List.find?_cons]
    have e : (cut1 (ks.headD 0) x).name = x.name := rfl
    rw [e]
    cases x.name == nm
    · exact ⟨k, hk⟩
    · exact ⟨_, rfl⟩
/-- What may be at a name: nothing, or a file that is whole on the platter. -/
def Whole (o : Option Fl) : Prop := ∀ x, o = some x → x.plat = x.bytes.length
theorem find_lose_whole (ks : List Int) (l : List Fl) (nm : List UInt8) (h : Whole (find l nm)) : find (lose ks l) nm = find l nm := by
  obtain ⟨k, hk⟩ := find_lose ks l nm
  rw [hk]
  rcases hf : find l nm with _ | x
  · rfl
  · rw [Option.map_some, cut_whole k (h x hf)]

/-- A stroke that does not touch a name, if it is done: it leaves what stands there; it is told OK, and all is on; or ErrDown, and all is off; or its own error. -/
theorem stroke_keep {s : St} (hon : s.off = false) (e : Int) (early : Bool) (t : List Fl) (nm : List UInt8) (hw : Whole (find s.files nm)) (ht : e = 0 → find t nm = find s.files nm) :
    ((stroke s e early t).1 = 0 ∧ e = 0 ∧ (stroke s e early t).2.off = false ∧ (stroke s e early t).2.files = t ∧ find (stroke s e early t).2.files nm = find s.files nm) ∨
    ((stroke s e early t).1 = 51 ∧ (stroke s e early t).2.off = true ∧ find (stroke s e early t).2.files nm = find s.files nm) ∨
    (e ≠ 0 ∧ stroke s e early t = (e, s)) := by
  unfold stroke
  rw [if_neg (by rw [hon]; decide)]
  by_cases he : e = 0
  · rw [if_pos he]
    have ht := ht he
    rcases hd : s.due with _ | ⟨_ | n, ks⟩
    · exact .inl ⟨rfl, he, hon, rfl, ht⟩
    · refine .inr (.inl ⟨rfl, rfl, ?_⟩)
      show find (lose ks (if early = true then t else s.files)) nm = _
      split
      · rw [find_lose_whole _ _ _ (by rw [ht]; exact hw), ht]
      · exact find_lose_whole _ _ _ hw
    · exact .inl ⟨rfl, he, hon, rfl, ht⟩
  · rw [if_neg he]
    exact .inr (.inr ⟨he, rfl⟩)

theorem find_append_other {s : St} (h : Rise s.files) (a t : List UInt8) {nm : List UInt8} (hne : nm ≠ a) : find (doAppend s a t) nm = find s.files nm := by
  unfold doAppend
  split <;> exact find_ins_other h _ hne
theorem find_sync_other {s : St} (h : Rise s.files) (a : List UInt8) {nm : List UInt8} (hne : nm ≠ a) : find (doSync s a) nm = find s.files nm := by
  unfold doSync
  split
  · exact find_ins_other h _ hne
  · rfl
theorem find_append_same {s : St} (h : Rise s.files) (a t : List UInt8) (hf : find s.files a = none) : find (doAppend s a t) a = some ⟨a, t, 0⟩ := by
  unfold doAppend
  rw [hf]
  exact find_ins_same h ⟨a, t, 0⟩
theorem find_sync_same {s : St} (h : Rise s.files) (a : List UInt8) {x : Fl} (hf : find s.files a = some x) : find (doSync s a) a = some ⟨a, x.bytes, x.bytes.length⟩ := by
  unfold doSync
  rw [hf]
  exact find_ins_same h ⟨a, x.bytes, x.bytes.length⟩
theorem find_rename {s : St} (h : Rise s.files) {a b : List UInt8} {x : Fl} (hf : find s.files a = some x) : find (doRename s a b) b = some ⟨b, x.bytes, x.plat⟩ := by
  unfold doRename
  rw [hf]
  exact find_ins_same (rise_del h a) ⟨b, x.bytes, x.plat⟩

/-- What becomes of the file of a name, when a text is written to it. -/
structure Wrote (s : St) (nm t : List UInt8) (r : Int × St) : Prop where
  it : (r.1 = 0 ∧ r.2.off = false ∧ find r.2.files nm = some ⟨nm, t, t.length⟩) ∨ (r.1 = 50 ∧ r.2.off = false ∧ find r.2.files nm = find s.files nm) ∨ (r.1 = 51 ∧ r.2.off = true ∧ find r.2.files nm = find s.files nm)
theorem wrote_down {s : St} {nm t : List UInt8} {r : Int × St} (h1 : r.1 = 51) (h2 : r.2.off = true) (h3 : find r.2.files nm = find s.files nm) : Wrote s nm t r := ⟨.inr (.inr ⟨h1, h2, h3⟩)⟩

theorem there_some {s : St} {nm : List UInt8} {x : Fl} (h : find s.files nm = some x) : errThere s nm = 0 := by
  unfold errThere; rw [h]; rfl
theorem there_none {s : St} {nm : List UInt8} (h : find s.files nm = none) : errThere s nm = 4 := by
  unfold errThere; rw [h]; rfl

/-- Clean: the draft is gone, or the power is; the other files stay. -/
theorem clean_keep {s : St} (hok : Ok s) (hon : s.off = false) {nm : List UInt8} (hne : nm ≠ dn) (hw : Whole (find s.files nm)) :
    ((sClean s).1 = 0 ∧ (sClean s).2.off = false ∧ find (sClean s).2.files dn = none ∧ find (sClean s).2.files nm = find s.files nm) ∨
    ((sClean s).1 = 51 ∧ (sClean s).2.off = true ∧ find (sClean s).2.files nm = find s.files nm) := by
  unfold sClean sRemove
  rcases hf : find s.files dn with _ | x
  · rw [there_none hf]
    have e : stroke s 4 false (del s.files dn) = (4, s) := by unfold stroke; rw [if_neg (by rw [hon]; decide), if_neg (by decide)]
    rw [e]
    exact .inl ⟨rfl, hon, hf, rfl⟩
  · rw [there_some hf]
    rcases stroke_keep hon 0 false (del s.files dn) nm hw (fun _ => find_del_other hok.rise hne) with ⟨h1, _, h2, h3, h4⟩ | ⟨h1, h2, h3⟩ | ⟨h1, _⟩
    · refine .inl ⟨?_, h2, ?_, h4⟩
      · show (if _ = (4 : Int) then _ else _) = _
        rw [h1]; rfl
      · show find (stroke s 0 false (del s.files dn)).2.files dn = none
        rw [h3]; exact find_del_same _ _
    · refine .inr ⟨?_, h2, h3⟩
      show (if _ = (4 : Int) then _ else _) = _
      rw [h1]; rfl
    · exact absurd rfl h1

theorem write_file {s : St} (hok : Ok s) (hon : s.off = false) {nm t : List UInt8} (hn : isTx nm = true) (hw : Whole (find s.files nm)) : Wrote s nm t (sWrite s nm t) := by
  obtain ⟨hnm, hne⟩ := isTx_nm hn
  have e0 : sAgainst s nm = 0 := by unfold sAgainst; rw [if_neg (by rw [hon]; decide), if_pos hn]
  unfold sWrite
  have u : ∀ (r : Int × St) (f : St → Int × St), r.1 = 0 → andThen r f = f r.2 := fun r f h => if_pos h
  have v : ∀ (r : Int × St) (f : St → Int × St), r.1 ≠ 0 → andThen r f = r := fun r f h => if_neg h
  rw [u _ _ e0]
  show Wrote s nm t (andThen (sClean s) _)
  rcases clean_keep hok hon hne hw with ⟨h1, h2, h3, h4⟩ | ⟨h1, h2, h3⟩
  rotate_left
  · rw [v _ _ (by rw [h1]; decide)]; exact wrote_down h1 h2 h3
  rw [u _ _ h1]
  have ok1 := ok_clean hok
  generalize (sClean s).2 = s1 at *
  show Wrote s nm t (andThen (sAppend s1 dn t) _)
  have ok2 := ok_append ok1 dn t
  unfold sAppend at ok2 ⊢
  rw [← h4] at hw
  rcases stroke_keep h2 (errAppend s1 dn t.length) true (doAppend s1 dn t) nm hw (fun _ => find_append_other ok1.rise dn t hne) with ⟨k1, k0, k2, k3, k4⟩ | ⟨k1, k2, k3⟩ | ⟨k1, k2⟩
  rotate_left
  · rw [v _ _ (by rw [k1]; decide)]; exact wrote_down k1 k2 (k3.trans h4)
  · rw [v _ _ (by rw [k2]; exact k1), k2]
    have e50 : errAppend s1 dn t.length = 50 := by
      unfold errAppend at k1 ⊢
      rw [if_neg (by rw [dn_nm]; decide)] at k1 ⊢
      split at k1
      · rename_i hc; rw [if_pos hc]
      · exact absurd rfl k1
    exact ⟨.inr (.inl ⟨e50, h2, h4⟩)⟩
  rw [u _ _ k1]
  have f2 : find (stroke s1 (errAppend s1 dn t.length) true (doAppend s1 dn t)).2.files dn = some ⟨dn, t, 0⟩ := by rw [k3]; exact find_append_same ok1.rise dn t h3
  rw [h4] at k4
  generalize (stroke s1 (errAppend s1 dn t.length) true (doAppend s1 dn t)).2 = s2 at *
  show Wrote s nm t (andThen (sSync s2 dn) _)
  rw [h4, ← k4] at hw
  have ok3 := ok_sync ok2 dn
  unfold sSync at ok3 ⊢
  rw [there_some f2] at ok3 ⊢
  rcases stroke_keep k2 0 false (doSync s2 dn) nm hw (fun _ => find_sync_other ok2.rise dn hne) with ⟨m1, _, m2, m3, m4⟩ | ⟨m1, m2, m3⟩ | ⟨m1, _⟩
  rotate_left
  · rw [v _ _ (by rw [m1]; decide)]; exact wrote_down m1 m2 (m3.trans k4)
  · exact absurd rfl m1
  rw [u _ _ m1]
  have f3 : find (stroke s2 0 false (doSync s2 dn)).2.files dn = some ⟨dn, t, t.length⟩ := by rw [m3]; exact find_sync_same ok2.rise dn f2
  rw [k4] at m4
  generalize (stroke s2 0 false (doSync s2 dn)).2 = s3 at *
  show Wrote s nm t (sRename s3 dn nm)
  have er : errRename s3 dn nm = 0 := by unfold errRename; rw [f3, hnm]; rfl
  unfold sRename stroke
  rw [if_neg (by rw [m2]; decide), if_pos er]
  have hw3 : Whole (find s3.files nm) := by rw [m4, ← k4]; exact hw
  rcases hd : s3.due with _ | ⟨_ | n, ks⟩
  · exact ⟨.inl ⟨rfl, m2, find_rename ok3.rise f3⟩⟩
  · refine wrote_down rfl rfl ?_
    show find (lose ks s3.files) nm = _
    rw [find_lose_whole _ _ _ hw3, m4]
  · exact ⟨.inl ⟨rfl, m2, find_rename ok3.rise f3⟩⟩
end Go.Proofs.YtlbhegicapggeaaGreat.sav
