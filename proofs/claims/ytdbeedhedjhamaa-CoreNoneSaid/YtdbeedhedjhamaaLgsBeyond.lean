/- Logs, the laws: what is more than is looked at. -/
import Derived.Test.YtdbeedhedjhamaaWords
import Derived.Test.YtdbeedhedjhamaaPceMuch
import Derived.Lib.Hide
namespace Go.Proofs.Ytdbeedhedjhamaa.lgs
open Go.RowKit Go.Lib Go.Proofs.Ytdbeedhedjhamaa.pce
set_option linter.unusedVariables false
set_option linter.unusedSimpArgs false
set_option linter.unnecessarySimpa false
set_option linter.unusedSectionVars false

/-- Yes; or no, and they are few. -/
def BeyondSays (ts : List Ct) (many : Nat) (w : World) (e : Ending) (w' : World) : Prop :=
  (e = .returned (.bool true) ∨ (e = .returned (.bool false) ∧ ts.length ≤ many ∧ ∀ t ∈ ts, t.ins.length ≤ 100)) ∧ w = w'
/-- Of lines. -/
def LinesSays (zs : List ByteArray) (many : Nat) (w : World) (e : Ending) (w' : World) : Prop :=
  (e = .returned (.bool true) ∨ (e = .returned (.bool false) ∧ zs.length ≤ many ∧ ∀ z ∈ zs, z.size ≤ 300)) ∧ w = w'
set_option maxHeartbeats 2000000 in
set_option maxRecDepth 100000 in
theorem beyondLines_is (w : World) (n₀ : Nat) (A : Option Addr) (n c : Nat) (zs : List ByteArray) (many : Nat) (hmany : many ≤ 1000) (hn : n = zs.length) (hb : n ≤ maxLen) (hz : ∀ z ∈ zs, z.size ≤ maxLen) (h : SRd w n₀ A zs) :
    Calls Try.prog 23 #[.slice A n c, .int .i64 many] w (LinesSays zs many w) := by
  have HC := Lib.hid h
  have HN := Lib.hid hn
  have HZ := Lib.hid hz
  unfold maxLen at hb
  clear h hn hz
  by_cases hm : many < n
  · go_enter Try.func23, Try.ntmps23
    go_wp2
    go_ret
    exact ⟨.inl rfl, rfl⟩
  go_enter Try.func23, Try.ntmps23
  go_wp2
  go_loopg [5] n (fun g s5 wr => ∃ k : Nat, k ≤ n ∧ n - k ≤ g ∧ s5 = .int .i64 k ∧ wr = w ∧ Hid (∀ z ∈ zs.take k, z.size ≤ 300))
  case atStart => exact ⟨0, Nat.zero_le _, by omega, rfl, rfl, fun t ht => by simp at ht⟩
  case round =>
    obtain ⟨k, hk, hg, rfl, hwr, HE⟩ := hrel
    have hwr := hwr.symm
    subst hwr
    by_cases hlt : k < n
    · obtain ⟨p1, o1, rfl, _, hc1⟩ := HC.out (by rw [← HN.out]; omega)
      have g1 : w.cell? ⟨p1, o1 + k, none⟩ = some (.string (zs.getD k ByteArray.empty)) := hc1 k (by rw [← HN.out]; exact hlt)
      have hkl : k < zs.length := by rw [← HN.out]; exact hlt
      have hx : zs.getD k ByteArray.empty = zs[k] := by simp [List.getD, List.getElem?_eq_getElem hkl]
      have hxm : (zs[k]).size ≤ maxLen := HZ.out _ (List.getElem_mem hkl)
      rw [hx] at g1
      have HT : Hid (zs.take (k + 1) = zs.take k ++ [zs[k]]) := Lib.hid (List.take_succ_eq_append_getElem hkl)
      generalize zs[k] = x at g1 hxm HT
      unfold maxLen at hxm
      clear hc1 hx hkl
      by_cases h1 : 300 < x.size
      · go_wp2
        go_ret
        exact ⟨.inl rfl, rfl⟩
      · go_wp2
        go_roundg (n - (k + 1))
        case measure => omega
        case rel =>
          refine ⟨k + 1, by omega, by omega, by go_num, rfl, fun t' ht' => ?_⟩
          rw [HT.out, List.mem_append] at ht'
          rcases ht' with ht' | ht'
          · exact HE.out t' ht'
          · rw [List.mem_singleton.1 ht']; omega
    · obtain rfl : k = n := by omega
      go_wp2
      go_ret
      exact ⟨.inr ⟨rfl, by rw [← HN.out]; omega, fun t ht => HE.out t (by rw [HN.out, List.take_length]; exact ht)⟩, rfl⟩

end Go.Proofs.Ytdbeedhedjhamaa.lgs
