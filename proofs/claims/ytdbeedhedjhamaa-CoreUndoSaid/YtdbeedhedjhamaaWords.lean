/- Words on memory: a value that reads as a list of texts; what stays of it. -/
import Derived.Test.YtdbeedhedjhamaaRows
import Derived.Test.YtdbeedhedjhamaaPure
import Derived.WalkKit
import Derived.ProofKit
import Derived.OpenShut
import Derived.Below
import Derived.Laws.OwnMore
import Derived.Deep.AppendLies
import Derived.Deep.Draws
import Derived.Deep.LoopGhost
import Derived.Lib.Hide
import Derived.RegionTactic
import Derived.Lib.SlicesS
namespace Go.Proofs.Ytdbeedhedjhamaa
open Go.RowKit

/-- The text that a list of bytes is. -/
abbrev B (l : List UInt8) : ByteArray := ⟨l.toArray⟩
theorem B_list (s : ByteArray) : B s.data.toList = s := by cases s; simp [B]
theorem list_B (l : List UInt8) : (B l).data.toList = l := by simp
theorem B_inj {a b : List UInt8} (h : B a = B b) : a = b := by
  have := congrArg (fun s : ByteArray => s.data.toList) h; simpa [B] using this
theorem B_size (l : List UInt8) : (B l).size = l.length := by show l.toArray.size = _; simp

/-- Behind the address A the texts zs stand, below block n₀. -/
def SRd (w : World) (n₀ : Nat) (A : Option Addr) (zs : List ByteArray) : Prop :=
  0 < zs.length → ∃ b off, A = some ⟨b, off, none⟩ ∧ b < n₀ ∧ ∀ j, j < zs.length → w.cell? ⟨b, off + j, none⟩ = some (.string (zs.getD j ByteArray.empty))

section
variable {w w' : World} {n₀ n₁ : Nat} {A : Option Addr} {zs : List ByteArray}
theorem SRd.nil : SRd w n₀ A [] := fun h => absurd h (by simp)
theorem SRd.keep (h : SRd w n₀ A zs) (hk : ∀ p : Addr, p.block < n₀ → w'.cell? p = w.cell? p) : SRd w' n₀ A zs := fun hn => by
  obtain ⟨b, off, e, hb, hc⟩ := h hn
  exact ⟨b, off, e, hb, fun j hj => (hk _ hb).trans (hc j hj)⟩
theorem SRd.more (h : SRd w n₀ A zs) (hB : n₀ ≤ n₁) : SRd w n₁ A zs := fun hn => by
  obtain ⟨b, off, e, hb, hc⟩ := h hn
  exact ⟨b, off, e, by omega, hc⟩
theorem SRd.below (h : SRd w n₀ A zs) (hb : Below n₀ w w') : SRd w' n₀ A zs := h.keep fun _ hp => hb.cell hp
theorem SRd.drewN (h : SRd w n₀ A zs) (k : Nat) : SRd (w.drewN k) n₀ A zs := h
theorem SRd.drew (h : SRd w n₀ A zs) : SRd w.drew n₀ A zs := h
theorem SRd.alloc (h : SRd w n₀ A zs) (hB : n₀ ≤ w.heap.size) (o : Obj) : SRd (w.alloc o) n₀ A zs := h.keep fun p hp => World.cell?_alloc_lt w o p (by omega)
theorem SRd.setCell (h : SRd w n₀ A zs) {p : Addr} (hB : n₀ ≤ p.block) (u : Value) : SRd (w.setCell p u) n₀ A zs :=
  h.keep fun q hq => World.cell?_setCell_other w p q u (fun e => by subst e; omega)
theorem SRd.of_own {base : Nat} {e : TypeId} {c : Nat} (h : w.ownsRow base e 1 (.slice A zs.length c) zs.length (zs.map Value.string)) : SRd w w.heap.size A zs := by
  intro hn
  obtain ⟨g, cap, hv, _, hlt⟩ := h.form hn
  have hA : A = some ⟨g, 0, none⟩ := by injection hv
  subst hA
  refine ⟨g, 0, rfl, hlt, fun j hj => ?_⟩
  have := h.cells (g := g) rfl j (.string (zs.getD j ByteArray.empty)) (by simp [List.getD, List.getElem?_eq_getElem hj])
  rwa [Go.WideShapes.add_plain] at this
end

theorem below_drewN {k : Nat} {a w : World} (h : Below k a w) (n : Nat) : Below k a (w.drewN n) := ⟨h.os, h.tape, h.output, h.size, h.block⟩
theorem below_drew {k : Nat} {a w : World} (h : Below k a w) : Below k a w.drew := ⟨h.os, h.tape, h.output, h.size, h.block⟩
theorem ret_int {k : IntKind} {a b : Int} (h : a = b) : Ending.returned (.int k a) = .returned (.int k b) := by rw [h]
theorem ret_bool {a b : Bool} (h : a = b) : Ending.returned (.bool a) = .returned (.bool b) := by rw [h]
end Go.Proofs.Ytdbeedhedjhamaa
