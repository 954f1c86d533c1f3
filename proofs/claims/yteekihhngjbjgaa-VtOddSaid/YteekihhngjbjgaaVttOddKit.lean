/- VtOdd: escapes that say nothing, as texts. -/
import Derived.Test.YteekihhngjbjgaaVttLawKit
import Derived.Test.YteekihhngjbjgaaVttErKit
namespace Go.Proofs.Yteekihhngjbjgaa.vtt
open Go.RowKit Go.Lib Go.Proofs.Yteekihhngjbjgaa.grd
set_option linter.unusedVariables false
set_option linter.unusedSimpArgs false
set_option linter.unnecessarySimpa false
set_option linter.unusedSectionVars false

/-- Of a terminal only the escape may be another one. -/
def Still (s s' : Ts) : Prop := ∃ p e, s' = { s with p := p, esc := e }
theorem Still.n {s s' : Ts} (h : Still s s') : s'.n = s.n ∧ s'.m = s.m ∧ s'.ls = s.ls ∧ s'.r = s.r ∧ s'.k = s.k := by
  obtain ⟨p, e, rfl⟩ := h; exact ⟨rfl, rfl, rfl, rfl, rfl⟩
theorem Still.shown {s s' : Ts} (h : Still s s') {w w' : World} {e : Ending} (H : Shown s' w e w') : Shown s w e w' := by
  obtain ⟨p, x, rfl⟩ := h; exact H
theorem take_bad (p : Pm) (c : UInt8) (h : p.bad = true) : (take p c).bad = true := by
  unfold take; repeat' split
  all_goals first | exact h | rfl
theorem fold_bad (q : List UInt8) (p : Pm) (h : p.bad = true) : (q.foldl take p).bad = true := by
  induction q generalizing p with
  | nil => exact h
  | cons c q ih => exact ih _ (take_bad p c h)
theorem obey_still (s : Ts) (c : UInt8) (h : c.toNat ≠ 72 ∧ c.toNat ≠ 65 ∧ c.toNat ≠ 66 ∧ c.toNat ≠ 67 ∧ c.toNat ≠ 68 ∧ c.toNat ≠ 74 ∧ c.toNat ≠ 75) : obey s c = s := by
  obtain ⟨h1, h2, h3, h4, h5, h6, h7⟩ := h
  unfold obey
  simp [h1, h2, h3, h4, h5, h6, h7]
theorem obey_spoilt (s : Ts) (c : UInt8) (h : s.p.bad = true) : obey s c = s := by unfold obey; rw [if_pos (.inl h)]
def Par (D : List UInt8) : Prop := ∀ c ∈ D, 32 ≤ c.toNat ∧ c.toNat < 64
theorem still_cmd (s : Ts) (h : s.esc ≤ 2) (D : List UInt8) (hD : Par D) (c : UInt8) (h27 : c.toNat ≠ 27) (hr : ¬ (32 ≤ c.toNat ∧ c.toNat < 64)) (hc : c.toNat ≠ 72 ∧ c.toNat ≠ 65 ∧ c.toNat ≠ 66 ∧ c.toNat ≠ 67 ∧ c.toNat ≠ 68 ∧ c.toNat ≠ 74 ∧ c.toNat ≠ 75) : Still s (feed s (27 :: 91 :: (D ++ [c]))) := by
  rw [feed_cmd s h D hD c h27 hr, obey_still _ c hc]; exact ⟨_, _, rfl⟩
theorem still_bad (s : Ts) (h : s.esc ≤ 2) (D : List UInt8) (hD : Par D) (c : UInt8) (h27 : c.toNat ≠ 27) (hr : ¬ (32 ≤ c.toNat ∧ c.toNat < 64)) (hb : (digest D).bad = true) : Still s (feed s (27 :: 91 :: (D ++ [c]))) := by
  rw [feed_cmd s h D hD c h27 hr, obey_spoilt _ c hb]; exact ⟨_, _, rfl⟩
theorem Par.cons {D : List UInt8} (h : Par D) : Par (63 :: D) := fun c hc => by
  rcases List.mem_cons.1 hc with rfl | h1
  · decide
  · exact h c h1
theorem dig_63 (D : List UInt8) : (digest (63 :: D)).bad = true := fold_bad D _ rfl
/-- The fifteen texts. -/
def odd (D : List UInt8) : List (List UInt8) := [[27, 91] ++ (63 :: D) ++ [72], [27, 91] ++ (63 :: D) ++ [74], [27, 77], [27, 40], [27, 91] ++ D ++ [109], [7], [0], [127], [128], [255], [27, 91] ++ D ++ [5], [27, 27, 91] ++ D ++ [113], [27, 91, 49, 59, 50, 59, 51, 72], [27, 91, 49, 59, 49, 65], [27, 91] ++ D ++ [27, 91] ++ D ++ [114]]
theorem odd_len (D : List UInt8) : (odd D).length = 15 := rfl
theorem odd_arr (D : List UInt8) : #[.string (ByteArray.mk #[27, 91] ++ B (63 :: D) ++ ByteArray.mk #[72]), .string (ByteArray.mk #[27, 91] ++ B (63 :: D) ++ ByteArray.mk #[74]), .string (ByteArray.mk #[27, 77]), .string (ByteArray.mk #[27, 40]), .string (ByteArray.mk #[27, 91] ++ B D ++ ByteArray.mk #[109]), .string (ByteArray.mk #[7]), .string (ByteArray.mk #[0]), .string (ByteArray.mk #[127]), .string (ByteArray.mk #[128]), .string (ByteArray.mk #[255]), .string (ByteArray.mk #[27, 91] ++ B D ++ ByteArray.mk #[5]), .string (ByteArray.mk #[27, 27, 91] ++ B D ++ ByteArray.mk #[113]), .string (ByteArray.mk #[27, 91, 49, 59, 50, 59, 51, 72]), .string (ByteArray.mk #[27, 91, 49, 59, 49, 65]), .string (ByteArray.mk #[27, 91] ++ B D ++ ByteArray.mk #[27, 91] ++ B D ++ ByteArray.mk #[114])] = ((odd D).map fun l => Value.string (B l)).toArray := by
  have e : ∀ a b : List UInt8, B a ++ B b = B (a ++ b) := fun a b => by
    apply ByteArray.ext
    simp [ByteArray.data_append]
  unfold odd
  simp only [List.map_cons, List.map_nil, ← e]
theorem odd_short (D : List UInt8) (h : D.length ≤ 20) : ∀ l ∈ odd D, l.length ≤ 100 := by
  intro l hl
  simp only [odd, List.mem_cons, List.not_mem_nil, or_false] at hl
  rcases hl with rfl | rfl | rfl | rfl | rfl | rfl | rfl | rfl | rfl | rfl | rfl | rfl | rfl | rfl | rfl <;> simp <;> omega
theorem odd_still (s : Ts) (hs : s.esc = 0) (D : List UInt8) (hD : Par D) : ∀ l ∈ odd D, Still s (feed s l) := by
  have h2 : s.esc ≤ 2 := by omega
  have h27 : step s 27 = { s with esc := 1 } := step_27 s h2
  have plain : ∀ c : UInt8, (c.toNat = 7 ∨ c.toNat = 0 ∨ 127 ≤ c.toNat) → Still s (feed s [c]) := fun c hc => by
    rw [feed_cons, feed_nil]
    unfold step
    rw [if_pos hs]
    unfold show'
    rw [if_neg (by omega), if_neg (by omega), if_neg (by omega), if_neg (by omega), if_neg (by omega)]
    exact ⟨s.p, s.esc, rfl⟩
  intro l hl
  simp only [odd, List.mem_cons, List.not_mem_nil, or_false] at hl
  rcases hl with rfl | rfl | rfl | rfl | rfl | rfl | rfl | rfl | rfl | rfl | rfl | rfl | rfl | rfl | rfl
  · exact still_bad s h2 (63 :: D) hD.cons 72 (by decide) (by decide) (dig_63 D)
  · exact still_bad s h2 (63 :: D) hD.cons 74 (by decide) (by decide) (dig_63 D)
  · rw [feed_cons, h27]; exact ⟨_, _, rfl⟩
  · rw [feed_cons, h27]; exact ⟨_, _, rfl⟩
  · exact still_cmd s h2 D hD 109 (by decide) (by decide) (by decide)
  · exact plain 7 (by decide)
  · exact plain 0 (by decide)
  · exact plain 127 (by decide)
  · exact plain 128 (by decide)
  · exact plain 255 (by decide)
  · exact still_cmd s h2 D hD 5 (by decide) (by decide) (by decide)
  · have e : [27, 27, 91] ++ D ++ [113] = 27 :: (27 :: 91 :: (D ++ [113])) := rfl
    rw [e, feed_cons, h27]
    obtain ⟨p, x, h⟩ := still_cmd { s with esc := 1 } (by dsimp only; omega) D hD 113 (by decide) (by decide) (by decide)
    exact ⟨p, x, h⟩
  · exact still_bad s h2 [49, 59, 50, 59, 51] (by unfold Par; decide) 72 (by decide) (by decide) rfl
  · have e : ([27, 91, 49, 59, 49, 65] : List UInt8) = 27 :: 91 :: ([49, 59, 49] ++ [65]) := rfl
    rw [e, feed_cmd s h2 [49, 59, 49] (by decide) 65 (by decide) (by decide)]
    exact ⟨digest [49, 59, 49], 0, rfl⟩
  · have e : [27, 91] ++ D ++ [27, 91] ++ D ++ [114] = 27 :: 91 :: (D ++ (27 :: 91 :: (D ++ [114]))) := by simp
    rw [e, feed_cons, step_27 s h2, feed_cons, step_91, feed_append, feed_pars s _ D hD]
    obtain ⟨p, x, h⟩ := still_cmd { s with p := D.foldl take Pm.zero, esc := 2 } (by dsimp only; omega) D hD 114 (by decide) (by decide) (by decide)
    exact ⟨p, x, h⟩
/-- One parameter's byte, of a number. -/
def pb (c : UInt8) : UInt8 := [48, 49, 50, 51, 52, 53, 54, 55, 56, 57, 59].getD (c.toNat % 11) 0
theorem pb_par (l : List UInt8) : Par (l.map pb) := fun c hc => by
  obtain ⟨d, _, rfl⟩ := List.mem_map.1 hc
  unfold pb
  have : d.toNat % 11 < 11 := Nat.mod_lt _ (by omega)
  generalize d.toNat % 11 = q at this
  match q, this with
  | 0, _ => decide
  | 1, _ => decide
  | 2, _ => decide
  | 3, _ => decide
  | 4, _ => decide
  | 5, _ => decide
  | 6, _ => decide
  | 7, _ => decide
  | 8, _ => decide
  | 9, _ => decide
  | 10, _ => decide
theorem index_at (l : List UInt8) (k : Nat) (ki : Int) (hki : ki = k) (h : k < l.length) (W : World) : (Instr.index 9 (.string (B l)) (.int .i64 ki)).run Try.prog W = .ok (.int .u8 ((l.getD k 0).toNat : Int)) W := by
  subst hki
  have h1 : (0 : Int) ≤ (k : Int) := by omega
  have e : (B l)[k]? = some (l.getD k 0) := by
    have : (B l)[k]? = l.toArray[k]? := rfl
    rw [this, List.getElem?_toArray, List.getElem?_eq_getElem h]
    simp [List.getD, List.getElem?_eq_getElem h]
  simp [Instr.index, asIntOf, Sem.run_bind, run_underlying Try.underlying9, h1, e, Result.andThen]
theorem index_pb (c : UInt8) (W : World) : (Instr.index 9 (.string ⟨#[48, 49, 50, 51, 52, 53, 54, 55, 56, 57, 59]⟩) (.int .i64 ((c.toNat : Int) % 11))).run Try.prog W = .ok (.int .u8 ((pb c).toNat : Int)) W :=
  index_at [48, 49, 50, 51, 52, 53, 54, 55, 56, 57, 59] (c.toNat % 11) _ (by omega) (Nat.mod_lt _ (by decide)) W
theorem conv_one (c : UInt8) (W : World) : (convert 39 9 (.slice (some ⟨W.heap.size, 0, none⟩) 1 1)).run Try.prog (W.alloc (.cells #[.int .u8 (c.toNat : Int)] 5)) = .ok (.string (B [c])) (W.alloc (.cells #[.int .u8 (c.toNat : Int)] 5)) :=
  VRd.conv (lo := 0) (hi := W.heap.size + 1) (l := [c]) (fun _ => ⟨W.heap.size, 0, rfl, Nat.zero_le _, by omega, fun j u hj => by
    match j, hj with
    | 0, hj => exact ((At.new W 5 #[.int .u8 (c.toNat : Int)]).cell 0).trans (by simpa [u8] using hj)
    | j + 1, hj => simp at hj⟩)
end Go.Proofs.Yteekihhngjbjgaa.vtt
