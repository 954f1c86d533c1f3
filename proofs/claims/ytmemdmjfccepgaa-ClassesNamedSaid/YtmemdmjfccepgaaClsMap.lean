/- A map from names to functions: what a store at a new name does, and what a look-up tells. -/
import Derived.Test.YtmemdmjfccepgaaClsAny
import Derived.Maps.Keyed
namespace Go.Proofs.Ytmemdmjfccepgaa.cls
open Go.RowKit Go.Lib
open Go.ChangeMaps (setBlock)
open Go.Maps (Keyed string_keyed)
set_option linter.unusedVariables false
set_option linter.unusedSimpArgs false
set_option linter.unnecessarySimpa false
set_option linter.unusedSectionVars false

abbrev T8 : ByteArray := ⟨#[]⟩
theorem strK : Keyed Try.prog 9 := string_keyed Try.underlying9
theorem keyS (s : ByteArray) (h : s.size ≤ maxLen) : keyOf Try.prog 9 (.string s) = some (.string s.data.toList) := Go.WideMaps.keyOf_string_mk Try.underlying9 h
theorem zeroF (w : World) : (zeroValue 35).run Try.prog w = .ok .nilFunc w := by kernel_rfl

/-- Every key is a name that may be. -/
def KeysOk (es : Array MapEntry) : Prop := ∀ e ∈ es.toList, ∃ s : ByteArray, e.key = .string s ∧ s.size ≤ maxLen
theorem KeysOk.key {es : Array MapEntry} (h : KeysOk es) : ∀ e ∈ es.toList, ∃ l, keyOf Try.prog 9 e.key = some l := fun e he => by
  obtain ⟨s, hs, hl⟩ := h e he
  exact ⟨_, by rw [hs]; exact keyS s hl⟩

/-- A store at a new name. -/
theorem run_newKey {w : World} {b c : Nat} {es : Array MapEntry} (hb : w.heap[b]? = some (.map es c)) (hk : KeysOk es) (s : ByteArray) (hs : s.size ≤ maxLen) (hne : ∀ e ∈ es.toList, e.key ≠ .string s) (v : Value) :
    (Instr.mapUpdate 48 (.map (some b)) (.string s) v).run Try.prog w = .ok () (setBlock w b (.map (es.push { key := .string s, val := v, born := c }) (c + 1))) := by
  have h9 := keyS s hs
  rcases strK.find w h9 es.toList hk.key with ⟨h1, _⟩ | ⟨j, e, _, h2, h3⟩
  · simp [Instr.mapUpdate, run_underlying Try.underlying48, MapKept.run_getObj_map hb, strK.check w false h9, h1, MapKept.run_setObj_map _ hb, Result.andThen, setBlock]
  · exact absurd h3 (hne e (List.mem_of_getElem? h2))
/-- A look-up. -/
theorem run_look {w : World} {b c : Nat} {es : Array MapEntry} (hb : w.heap[b]? = some (.map es c)) (hk : KeysOk es) (s : ByteArray) (hs : s.size ≤ maxLen) :
    ((Instr.lookup 48 (.map (some b)) (.string s) true).run Try.prog w = .ok (.tuple #[.nilFunc, .bool false]) w ∧ ∀ e ∈ es.toList, e.key ≠ .string s) ∨
    ∃ e ∈ es.toList, e.key = .string s ∧ (Instr.lookup 48 (.map (some b)) (.string s) true).run Try.prog w = .ok (.tuple #[e.val, .bool true]) w := by
  have h9 := keyS s hs
  rcases strK.find w h9 es.toList hk.key with ⟨h1, h2⟩ | ⟨j, e, h1, h2, h3⟩
  · exact .inl ⟨by simp [Instr.lookup, run_underlying Try.underlying48, MapKept.run_getObj_map hb, strK.check w _ h9, h1, zeroF, Result.andThen], h2⟩
  · exact .inr ⟨e, List.mem_of_getElem? h2, h3, by simp [Instr.lookup, run_underlying Try.underlying48, MapKept.run_getObj_map hb, strK.check w _ h9, h1, Result.andThen]⟩
theorem setMap_but (w : World) (b : Nat) (o : Obj) : But b w (setBlock w b o) := ⟨rfl, rfl, rfl, by simp [setBlock], fun k hk => by simp [setBlock, Array.getElem?_setIfInBounds_ne (Ne.symm hk)]⟩
theorem setMap_at {w : World} {b : Nat} {o o' : Obj} (h : w.heap[b]? = some o') : (setBlock w b o).heap[b]? = some o := by
  have := (Array.getElem?_eq_some_iff.1 h).1
  simp [setBlock, this]
theorem setMap_kp {w : World} {b c : Nat} {es : Array MapEntry} (hb : w.heap[b]? = some (.map es c)) (n : Nat) (o : Obj) : Kp n w (setBlock w b o) := ⟨by simp [setBlock], fun i _ cs t hc => by
  rw [(setMap_but w b o).block i (fun e => by subst e; rw [hb] at hc; cases hc)]; exact hc⟩

/-- The names' functions, in a map. -/
def TabIs (n : Nat) (w : World) (v : Value) : Prop :=
  ∃ b es c, v = .map (some b) ∧ n ≤ b ∧ w.heap[b]? = some (.map es c) ∧ (∀ e ∈ es.toList, ∃ k f, (k, f) ∈ clsT ∧ e.key = .string (B k) ∧ FnIs n w e.val f) ∧ (∀ k f, (k, f) ∈ clsT → ∃ e ∈ es.toList, e.key = .string (B k))
theorem clsT_small : ∀ p ∈ clsT, p.1.length ≤ 6 := by decide
theorem clsT_uniq : ∀ p ∈ clsT, clsOf p.1 = some p.2 := by
  intro p hp
  simp only [clsT, List.mem_cons, List.not_mem_nil, or_false] at hp
  rcases hp with rfl | rfl | rfl | rfl | rfl | rfl | rfl | rfl | rfl | rfl | rfl | rfl <;> rfl
theorem TabIs.look {n : Nat} {w : World} {v : Value} (h : TabIs n w v) (s : ByteArray) (hs : s.size ≤ maxLen) :
    (clsOf s.data.toList = none ∧ (Instr.lookup 48 v (.string s) true).run Try.prog w = .ok (.tuple #[.nilFunc, .bool false]) w) ∨
    ∃ u f, clsOf s.data.toList = some f ∧ FnIs n w u f ∧ (Instr.lookup 48 v (.string s) true).run Try.prog w = .ok (.tuple #[u, .bool true]) w := by
  obtain ⟨b, es, c, rfl, _, hb, h1, h2⟩ := h
  have hk : KeysOk es := fun e he => by
    obtain ⟨k, f, hm, hkey, _⟩ := h1 e he
    exact ⟨B k, hkey, by rw [B_size]; have := clsT_small _ hm; unfold maxLen; show k.length ≤ _; simp at this; omega⟩
  rcases run_look hb hk s hs with ⟨hr, hne⟩ | ⟨e, he, hkey, hr⟩
  · refine .inl ⟨?_, hr⟩
    rcases clsOf_cases s.data.toList with ⟨k, f, hm, hl, _⟩ | ⟨hn, _⟩
    · obtain ⟨e, he, hke⟩ := h2 k f hm
      exact absurd (by rw [hke, ← hl, B_list]) (hne e he)
    · exact hn
  · obtain ⟨k, f, hm, hkey', hf⟩ := h1 e he
    refine .inr ⟨e.val, f, ?_, hf, hr⟩
    rw [hkey'] at hkey
    injection hkey with hkey
    rw [← hkey, list_B]
    exact clsT_uniq _ hm
end Go.Proofs.Ytmemdmjfccepgaa.cls
