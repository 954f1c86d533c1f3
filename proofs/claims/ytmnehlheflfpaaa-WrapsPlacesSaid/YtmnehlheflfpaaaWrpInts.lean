/- Lines in rows: a row of numbers that grows; texts that are cut. -/
import Derived.Test.YtmnehlheflfpaaaWrpLay
import Derived.Test.YtmnehlheflfpaaaWrpOf
import Derived.Deep.RegionLaw
namespace Go.Proofs.Ytmnehlheflfpaaa.wrp
open Go.RowKit Go.Lib
set_option linter.unusedVariables false
set_option linter.unusedSimpArgs false
set_option linter.unnecessarySimpa false
set_option linter.unusedSectionVars false

def ints (ns : List Nat) : List Value := ns.map fun (n : Nat) => Value.int .i64 (n : Int)
theorem ints_len (ns : List Nat) : (ints ns).length = ns.length := by unfold ints; rw [List.length_map]
theorem ints_snoc (ns : List Nat) (n : Nat) : ints (ns ++ [n]) = ints ns ++ [.int .i64 (n : Int)] := by unfold ints; rw [List.map_append]; rfl
/-- The places of the first k bytes. -/
def firsts (l : List UInt8) (k : Nat) : List Nat := (List.range k).map (atL l)
theorem firsts_len (l : List UInt8) (k : Nat) : (firsts l k).length = k := by unfold firsts; rw [List.length_map, List.length_range]
theorem firsts_succ (l : List UInt8) (k : Nat) : firsts l (k + 1) = firsts l k ++ [atL l k] := by unfold firsts; rw [List.range_succ, List.map_append]; rfl
theorem firsts_all (l : List UInt8) : firsts l (l.length + 1) = placesL l := rfl
theorem extract_all (s : ByteArray) (a b : Nat) : s.extract a b = B ((s.data.toList.drop a).take (b - a)) := by rw [← Lib.extract_data, B_list]
theorem index_at (l : List UInt8) (k : Nat) (ki : Int) (hki : ki = k) (h : k < l.length) (W : World) : (Instr.index 9 (.string (B l)) (.int .i64 ki)).run Try.prog W = .ok (.int .u8 ((l.getD k 0).toNat : Int)) W := by
  subst hki
  have h1 : (0 : Int) ≤ (k : Int) := by omega
  have e : (B l)[k]? = some (l.getD k 0) := by
    have : (B l)[k]? = l.toArray[k]? := rfl
    rw [this, List.getElem?_toArray, List.getElem?_eq_getElem h]
    simp [List.getD, List.getElem?_eq_getElem h]
  simp [Instr.index, asIntOf, Sem.run_bind, run_underlying Try.underlying9, h1, e, Result.andThen]
theorem slice_front (l : List UInt8) (k : Nat) (ki : Int) (hki : ki = k) (h : k ≤ l.length) (W : World) : (Instr.slice 9 (.string (B l)) none (some (.int .i64 ki)) none).run Try.prog W = .ok (.string (B (l.take k))) W := by
  subst hki
  rw [run_slice_string_h (P := Try.prog) W 9 (B l) Try.underlying9 .i64 (k : Int) (by omega) (by rw [B_size]; omega), Int.toNat_natCast, extract_all, list_B, List.drop_zero, Nat.sub_zero]
theorem slice_drop (l : List UInt8) (k : Nat) (ki : Int) (hki : ki = k) (h : k ≤ l.length) (W : World) : (Instr.slice 9 (.string (B l)) (some (.int .i64 ki)) none none).run Try.prog W = .ok (.string (B (l.drop k))) W := by
  subst hki
  rw [run_slice_string_l (P := Try.prog) W 9 (B l) Try.underlying9 .i64 (k : Int) (by omega) (by rw [B_size]; omega), Int.toNat_natCast, extract_all, list_B]
  congr 3
  rw [B_size, ← List.length_drop, List.take_length]
theorem slice_mid (l : List UInt8) (a b : Nat) (ai bi : Int) (ha : ai = a) (hb : bi = b) (h1 : a ≤ b) (h2 : b ≤ l.length) (W : World) : (Instr.slice 9 (.string (B l)) (some (.int .i64 ai)) (some (.int .i64 bi)) none).run Try.prog W = .ok (.string (B ((l.drop a).take (b - a)))) W := by
  subst ha hb
  rw [run_slice_string (P := Try.prog) W 9 (B l) .i64 .i64 (a : Int) (b : Int) Try.underlying9 (by omega) (by omega) (by rw [B_size]; omega), Int.toNat_natCast, Int.toNat_natCast, extract_all, list_B]
/-- A row of one's own of bytes, as a text, in any world that keeps its block. -/
theorem conv_own {w : World} {base c m : Nat} {A : Option Addr} {l : List UInt8} (hm : m = l.length) (h : w.ownsRow base 5 1 (.slice A m c) m (l.map u8)) :
    (convert 37 9 (.slice A m c)).run Try.prog w = .ok (.string (B l)) w := by
  subst hm
  rcases Nat.eq_zero_or_pos l.length with h0 | h0
  · obtain rfl : l = [] := List.eq_nil_of_length_eq_zero h0
    cases A with
    | none => exact run_convert_bytes_nil w 37 5 Try.underlying37 Try.underlying5 0 c 9 Try.underlying9
    | some a => exact run_convert_bytes_back (P := Try.prog) w 37 9 5 a c [] Try.underlying37 Try.underlying5 Try.underlying9 (fun j hj => by simp at hj)
  · obtain ⟨g, cs, rfl, _, hA, hc⟩ := own_cells h h0
    exact run_convert_bytes_back (P := Try.prog) w 37 9 5 ⟨g, 0, none⟩ c l Try.underlying37 Try.underlying5 Try.underlying9 (fun j hj => by
      rw [Go.WideShapes.add_plain, Nat.zero_add, hA.cell, hc j (.int .u8 (l[j].toNat : Int)) (by rw [List.getElem?_map, List.getElem?_eq_getElem hj]; rfl)])
theorem cell_one (w : World) (t : TypeId) (u : Value) : ∀ j x, [u][j]? = some x → (w.alloc (.cells #[u] t)).cell? ((⟨w.heap.size, 0, none⟩ : Addr).add j) = some x := fun j x hx => by
  match j, hx with
  | 0, hx => rw [Go.WideShapes.add_plain]; exact ((At.new w t #[u]).cell 0).trans (by simpa using hx)
  | j + 1, hx => simp at hx
theorem one_int (n : Int) : ∀ u ∈ [Value.int .i64 n], u.oneCell' = true := fun u hu => by rw [List.mem_singleton.1 hu]; rfl
theorem getD_at (l : List UInt8) (k : Nat) (h : k < l.length) : l[k]? = some (l.getD k 0) := by simp [List.getD, List.getElem?_eq_getElem h]
theorem own_drew {w : World} {base n : Nat} {e : TypeId} {v : Value} {xs : List Value} (h : w.ownsRow base e 1 v n xs) : w.drew.ownsRow base e 1 v n xs := h
theorem div_small (p c : Nat) (h : p ≤ 1000000) : (0 : Int) ≤ (p : Int) / (c : Int) ∧ (p : Int) / (c : Int) ≤ 1000000 := by
  have e : (p : Int) / (c : Int) = ((p / c : Nat) : Int) := rfl
  have := Nat.div_le_self p c
  rw [e]; exact ⟨Int.natCast_nonneg _, by omega⟩
end Go.Proofs.Ytmnehlheflfpaaa.wrp
