/- The document's Get, walked. -/
import Derived.Test.YtakckmelojobkaaDoorNumPure
import Derived.Test.YtakckmelojobkaaDoorNumCut
import Derived.Test.YtakckmelojobkaaDoorNumRefGet
namespace Go.Proofs.YtakckmelojobkaaDoor.num
open Go.RowKit Go.Lib

theorem put_slice (s : ByteArray) (a m : Nat) (h : a + m ≤ s.size) (W : World) : (Instr.slice 9 (.string s) (some (.int .i64 a)) (some (.int .i64 ((a : Int) + (m : Int)))) none).run Tryd.prog W = .ok (.string (B ((s.data.toList.drop a).take m))) W := by
  have := run_slice_string (P := Tryd.prog) W 9 s .i64 .i64 (a : Int) ((a : Int) + (m : Int)) Tryd.underlying9 (by omega) (by omega) (by omega)
  rw [this, Int.toNat_natCast, show ((a : Int) + (m : Int)).toNat = a + m by omega, extract_B, show a + m - a = m by omega]

/-- The number that was gone through is the one that stands there, if its bytes do. -/
def Judged (l : List UInt8) (acc : Nat) : Prop := acc ≤ MX ∧ ∀ n, getN l = some n → n = acc
theorem Judged.yes {l : List UInt8} {acc : Nat} (h : Judged l acc) (hp : l.take (putN acc).length = putN acc) : getN l = some acc :=
  getN_iff.2 ⟨h.1, by rw [← hp]; exact List.take_prefix _ _⟩
theorem Judged.no {l : List UInt8} {acc : Nat} (h : Judged l acc) (hp : ¬ l.take (putN acc).length = putN acc) : getN l = none := by
  rcases hg : getN l with _ | n
  · rfl
  · exfalso
    have := h.2 n hg
    subst this
    obtain ⟨r, hr⟩ := (getN_iff.1 hg).2
    apply hp
    rw [← hr, List.take_left]

end Go.Proofs.YtakckmelojobkaaDoor.num
