/- errors.As at a target that was laid just now. -/
import Derived.Test.YtljpclfeogiohaaGreatDoorFrmAs
namespace Go.Proofs.YtljpclfeogiohaaGreatDoor.frm
open Go.RowKit Go.Extern.Stop Go.Stop Go.Extern

/-- At a target that was laid just now: true, and what was there is as it was. -/
theorem as_lack (z : ByteArray) (w : World) (hlt : 0 < w.heap.size) (hg : w.cell? ⟨0, 0, none⟩ = some (.iface 89 (.agg #[.pointer (some ⟨7, 47, none⟩)]))) :
    Calls Tryz.prog 28 #[.iface 50 (.string z), .iface 52 (.pointer (some ⟨w.heap.size, 0, none⟩))] (w.alloc (.cells #[.string ⟨#[]⟩] 50)) fun e w' => e = .returned (.bool true) ∧ Below w.heap.size w w' := by
  have hg2 : (w.alloc (.cells #[.string ⟨#[]⟩] 50)).cell? ⟨0, 0, none⟩ = some (.iface 89 (.agg #[.pointer (some ⟨7, 47, none⟩)])) := by
    rw [World.cell?_alloc_lt _ _ ⟨0, 0, none⟩ hlt]; exact hg
  refine (as_hit z ⟨w.heap.size, 0, none⟩ (.string ⟨#[]⟩) (w.alloc (.cells #[.string ⟨#[]⟩] 50)) hg2 (by simp) (by simp)).mono ?_
  rintro e w' ⟨rfl, rfl⟩
  have h0 : Below w.heap.size w (w.alloc (.cells #[.string ⟨#[]⟩] 50)) := (Below.refl _ w).alloc (Nat.le_refl _) _
  exact ⟨rfl, ((((h0.alloc h0.size _).alloc (by simp; omega) _).alloc (by simp; omega) _).alloc (by simp; omega) _).setCell (Nat.le_refl _) _⟩
end Go.Proofs.YtljpclfeogiohaaGreatDoor.frm
