/- The law's Great: where it says no, the list has no more lines, and no more bytes together, than were named. -/
import Derived.Test.YtakckmelojobkaaDoorWords
namespace Go.Proofs.YtakckmelojobkaaDoor
open Go.RowKit Go.Lib

def tot (zs : List ByteArray) : Nat := (zs.map ByteArray.size).sum
theorem tot_take (zs : List ByteArray) (k : Nat) (h : k < zs.length) : tot (zs.take (k + 1)) = tot (zs.take k) + (zs.getD k ByteArray.empty).size := by
  have e : zs.getD k ByteArray.empty = zs[k] := by simp [List.getD, List.getElem?_eq_getElem h]
  unfold tot; rw [e, List.take_succ_eq_append_getElem h, List.map_append, List.sum_append]; simp only [List.map_cons, List.map_nil, List.sum_cons, List.sum_nil, Nat.add_zero]

/-- Yes; or no, and it is not great. -/
def GreatSays (zs : List ByteArray) (many bytes : Nat) (w : World) (e : Ending) (w' : World) : Prop :=
  (e = .returned (.bool true) ∨ (e = .returned (.bool false) ∧ zs.length ≤ many ∧ tot zs ≤ bytes)) ∧ w = w'

set_option maxHeartbeats 2000000 in
set_option maxRecDepth 100000 in
theorem great (A : Option Addr) (c n₀ n many bytes : Nat) (zs : List ByteArray) (w : World) (hn : n = zs.length) (hb1 : n ≤ 9223372036854775807) (hb2 : many ≤ 1000000) (hb3 : bytes ≤ 1000000) (hz : ∀ z ∈ zs, z.size ≤ maxLen) (h1 : SRd w n₀ A zs) :
    Calls Tryd.prog 9 #[.slice A n c, .int .i64 many, .int .i64 bytes] w (GreatSays zs many bytes w) := by
  have H1 := Lib.hid hn
  have HZ := Lib.hid hz
  clear hn hz
  by_cases hnm : n ≤ many
  · go_enter Tryd.func9, Tryd.ntmps9
    go_wp2
    go_loopg [2, 7] n (fun g s2 s7 wr => ∃ k r : Nat, k ≤ n ∧ n - k ≤ g ∧ s7 = .int .i64 k ∧ wr = w ∧ s2 = .int .i64 r ∧ r ≤ bytes ∧ tot (zs.take k) + r = bytes)
    case atStart => exact ⟨0, bytes, Nat.zero_le _, by omega, rfl, rfl, rfl, Nat.le_refl _, by simp [tot]⟩
    case round =>
      obtain ⟨k, r, hk, hg, rfl, rfl, rfl, hr, heq⟩ := hrel
      have HE := Lib.hid heq
      clear heq
      by_cases hlt : k < n
      · obtain ⟨p1, o1, rfl, _, hc1⟩ := h1 (by rw [← H1.out]; omega)
        have g1 : wr.cell? ⟨p1, o1 + k, none⟩ = some (.string (zs.getD k ByteArray.empty)) := hc1 k (by rw [← H1.out]; omega)
        have hkz : k < zs.length := by rw [← H1.out]; exact hlt
        have T := Lib.hid (tot_take zs k hkz)
        have hsz : (zs.getD k ByteArray.empty).size ≤ 9223372036854775807 := by
          have := HZ.out (zs.getD k ByteArray.empty) (by simp [List.getD, List.getElem?_eq_getElem hkz])
          unfold maxLen at this; omega
        clear hc1 h1 hkz
        generalize hxk : zs.getD k ByteArray.empty = x at g1 T hsz
        clear hxk
        by_cases hx : x.size ≤ r
        · go_wp2
          go_roundg (n - (k + 1))
          case measure => omega
          case rel =>
            refine ⟨k + 1, r - x.size, by omega, by omega, by go_num, rfl, ?_, by omega, ?_⟩
            · simp; omega
            · have := T.out; have := HE.out; omega
        · go_wp2
          all_goals
            go_ret
            exact ⟨.inl rfl, rfl⟩
      · have hkn : k = n := by omega
        subst hkn
        clear h1
        go_wp2
        go_ret
        refine ⟨.inr ⟨rfl, ?_, ?_⟩, rfl⟩
        · rw [← H1.out]; exact hnm
        · have := HE.out; rw [H1.out, List.take_length] at this; omega
  · clear h1
    go_enter Tryd.func9, Tryd.ntmps9
    go_wp2
    go_ret
    exact ⟨.inl rfl, rfl⟩
end Go.Proofs.YtakckmelojobkaaDoor
