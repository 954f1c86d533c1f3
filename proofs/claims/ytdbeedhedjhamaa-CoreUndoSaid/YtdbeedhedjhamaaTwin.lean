/- The law's Twin: the same lines in memory of their own, with a star behind them; the law's Left. -/
import Derived.Test.YtdbeedhedjhamaaSame
import Derived.OwnWalk
import Derived.Laws.AppendOwnNone
import Derived.Maps.AppendAt
import Derived.RangeFuncBox
namespace Go.Proofs.Ytdbeedhedjhamaa
open Go.RowKit Go.Lib

theorem info9 : (Try.prog.info? 9).map (fun i => (i.zero, i.size, i.bytes)) = some (some (.string ⟨#[]⟩), 1, 16) := by kernel_rfl
theorem one_str (s : ByteArray) : ∀ u ∈ [Value.string s], u.oneCell' = true := by intro u hu; simp only [List.mem_singleton] at hu; subst hu; rfl
theorem one_strs (zs : List ByteArray) : ∀ u ∈ zs.map Value.string, u.oneCell' = true := by
  intro u hu; obtain ⟨s, _, rfl⟩ := List.mem_map.1 hu; rfl
abbrev star : ByteArray := ⟨#[42]⟩

theorem own_cap {w : World} {base : Nat} {e : TypeId} {a : Addr} {n cap : Nat} {xs : List Value} (h : w.ownsRow base e 1 (.slice (some a) n cap) n xs) : n ≤ cap ∧ cap ≤ maxLen := by
  rcases h.2 with ⟨h, _⟩ | ⟨g, cap', cur, hv, _, _, h1, h2, _⟩
  · cases h
  · injection hv with _ _ hv
    subst hv
    exact ⟨h1, h2⟩

/-- A row of one's own: the lines, and a star behind. -/
def TwinAt (w : World) (zs : List ByteArray) (v : Value) (w' : World) : Prop :=
  ∃ g cap, v = .slice (some ⟨g, 0, none⟩) zs.length cap ∧ w'.ownsRow w.heap.size 9 1 (.slice (some ⟨g, 0, none⟩) (zs.length + 1) cap) (zs.length + 1) ((zs ++ [star]).map Value.string) ∧ Below w.heap.size w w'

end Go.Proofs.Ytdbeedhedjhamaa
