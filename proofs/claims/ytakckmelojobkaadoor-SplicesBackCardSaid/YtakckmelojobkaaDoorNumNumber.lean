/- The program's number: what digits say, if they are such as Put tells. -/
import Derived.Test.YtakckmelojobkaaDoorNumPure
import Derived.Test.YtakckmelojobkaaDoorNumUint
import Derived.Test.YtakckmelojobkaaDoorNumIs
import Derived.Test.YtakckmelojobkaaDoorShelf
import Derived.Test.YtakckmelojobkaaDoorNumRefGet
import Derived.Lib.LaidTab
import Derived.Lib.AppendIntMem
import Derived.Deep.QuietTactic
import Derived.BigQuiet
namespace Go.Proofs.YtakckmelojobkaaDoor.num
open Go.RowKit Go.Lib

/-- What the package-level variables hold, below block n₀. -/
def Vars (n₀ : Nat) (w : World) : Prop :=
  (0 < n₀ ∧ 1 < n₀ ∧ 3 < n₀) ∧ Lib.TabIs Tryd.prog w "internal/strconv.uint64pow10" .u64 Lib.pow10Tab ∧
  ∃ (aS aR : Addr) (cS cR : Array Value) (tS tR : TypeId), w.cell? ⟨0, 0, none⟩ = some (.iface 152 (.pointer (some aS))) ∧ w.cell? ⟨1, 0, none⟩ = some (.iface 152 (.pointer (some aR))) ∧
    aS ≠ aR ∧ aS.block < n₀ ∧ aR.block < n₀ ∧ w.heap[aS.block]? = some (.cells cS tS (0, 0)) ∧ w.heap[aR.block]? = some (.cells cR tR (0, 0))
theorem gTab : Tryd.prog.globalNamed "internal/strconv.uint64pow10" = some 3 := by kernel_rfl
theorem Vars.below {n₀ : Nat} {w w' : World} (h : Vars n₀ w) (hB : Below n₀ w w') : Vars n₀ w' := by
  obtain ⟨h6, ht, aS, aR, cS, cR, tS, tR, h0, h1, hne, b0, b1, c0, c1⟩ := h
  refine ⟨h6, ?_, aS, aR, cS, cR, tS, tR, ?_, ?_, hne, b0, b1, ?_, ?_⟩
  · unfold Lib.TabIs World.var? at ht ⊢
    rw [gTab] at ht ⊢
    simp only [Option.bind_some] at ht ⊢
    rw [hB.block 3 (by omega)]
    exact ht
  · exact (hB.cell (p := ⟨0, 0, none⟩) (show 0 < n₀ by omega)).trans h0
  · exact (hB.cell (p := ⟨1, 0, none⟩) (show 1 < n₀ by omega)).trans h1
  · exact (hB.block _ b0).trans c0
  · exact (hB.block _ b1).trans c1
theorem Vars.more {n₀ n₁ : Nat} {w : World} (h : Vars n₀ w) (hn : n₀ ≤ n₁) : Vars n₁ w := by
  obtain ⟨h6, ht, aS, aR, cS, cR, tS, tR, h0, h1, hne, b0, b1, c0, c1⟩ := h
  exact ⟨by omega, ht, aS, aR, cS, cR, tS, tR, h0, h1, hne, by omega, by omega, c0, c1⟩
theorem Vars.next {w w' : World} (h : Vars w.heap.size w) (hB : Below w.heap.size w w') : Vars w'.heap.size w' := (h.below hB).more hB.size

theorem below_bytes (w : World) (s : ByteArray) : Below w.heap.size w (Lib.bytesWorld w 5 s) := Lib.bytesWorld_below _ _ _

/-- internal/strconv.ParseUint at 63 bits, of any text. -/
theorem parseAll41 (t : ByteArray) (hmax : t.size ≤ 9223372036854775806) (w : World) :
    Calls Tryd.prog 79 #[.string t, .int .i64 10, .int .i64 63] w fun e w' => e = .returned (Lib.uintTupleM 127 9223372036854775807 (Lib.parseUintB 63 t.data.toList)) ∧ Below w.heap.size w w' := by
  have eM : (2 : Nat) ^ 63 - 1 = 9223372036854775807 := by decide
  by_cases h0 : t.size = 0
  · have ht : t = ⟨#[]⟩ := by
      apply ByteArray.ext
      exact Array.eq_empty_of_size_eq_zero h0
    subst ht
    exact (parse41_empty w).mono fun e w' ⟨he, hw⟩ => ⟨he, by rw [hw]; exact Below.refl _ _⟩
  · have hne : t.data.toList ≠ [] := fun h => h0 (by rw [Lib.size_eq, h]; rfl)
    refine (parse41 t h0 hmax w).mono fun e w' ⟨he, hw⟩ => ⟨?_, by rw [hw]; exact below_bytes _ _⟩
    rw [he, Lib.parseUintB, if_neg hne, eM]

/-- What strconv.ParseUint hands back: the number; or an error that holds one of the two sentinels. -/
def UintSays (s : ByteArray) (aS aR : Addr) (w : World) (e : Ending) (w' : World) : Prop :=
  Below w.heap.size w w' ∧
  match Lib.parseUintB 63 s.data.toList with
  | .ok u => e = .returned (.tuple #[.int .u64 u, .nilIface])
  | .range => ∃ N, e = .returned (.tuple #[.int .u64 9223372036854775807, .iface 129 (.pointer (some ⟨N, 0, none⟩))]) ∧ w'.cell? ⟨N, 2, none⟩ = some (.iface 152 (.pointer (some aR)))
  | _ => ∃ N, e = .returned (.tuple #[.int .u64 0, .iface 129 (.pointer (some ⟨N, 0, none⟩))]) ∧ w'.cell? ⟨N, 2, none⟩ = some (.iface 152 (.pointer (some aS)))

set_option maxHeartbeats 4000000 in
set_option maxRecDepth 100000 in
theorem uint35 (s : ByteArray) (hlim : s.size ≤ 281474976710656) (aS aR : Addr) (w : World) (h6 : 0 < w.heap.size ∧ 1 < w.heap.size) (hS : w.cell? ⟨0, 0, none⟩ = some (.iface 152 (.pointer (some aS)))) (hR : w.cell? ⟨1, 0, none⟩ = some (.iface 152 (.pointer (some aR)))) :
    Calls Tryd.prog 70 #[.string s, .int .i64 10, .int .i64 63] w (UintSays s aS aR w) := by
  have hI := parseAll41 s (by omega) w
  unfold UintSays
  rcases h : Lib.parseUintB 63 s.data.toList with u | _ | _
  · rw [h] at hI
    have hI : Calls Tryd.prog 79 #[.string s, .int .i64 10, .int .i64 63] w fun e w' => e = .returned (.tuple #[.int .u64 u, .nilIface]) ∧ Below w.heap.size w w' := hI
    clear h
    go_enter Tryd.func70, Tryd.ntmps70
    go_wp2_with (go_at_call 79; refine hI.mono ?_; rintro e W1 ⟨rfl, hW⟩)
    go_wp2
    go_ret2
    exact ⟨hW, rfl⟩
  · rw [h] at hI
    have hI : Calls Tryd.prog 79 #[.string s, .int .i64 10, .int .i64 63] w fun e w' => e = .returned (.tuple #[.int .u64 0, .iface 127 (.int .i64 2)]) ∧ Below w.heap.size w w' := hI
    clear h
    go_enter Tryd.func70, Tryd.ntmps70
    go_wp2_with (go_at_call 79; refine hI.mono ?_)
    rintro e W1 ⟨rfl, hb1⟩
    have hv1 : W1.cell? ⟨0, 0, none⟩ = some (.iface 152 (.pointer (some aS))) := (hb1.cell (p := ⟨0, 0, none⟩) (show 0 < w.heap.size by omega)).trans hS
    go_wp2_with fail
    go_at_call 80
    refine (Tryd.strconv_toError_syntax ⟨#[80, 97, 114, 115, 101, 85, 105, 110, 116]⟩ s 10 63 _ _ hlim hv1 (.inr ⟨_, _, rfl⟩)).mono ?_
    rintro e W2 ⟨N, rfl, h1, h2, h3⟩
    have hc : W2.cell? ⟨N, 2, none⟩ = some (.iface 152 (.pointer (some aS))) := by rw [cell_of_row _ _ _ _ _ _ h2]; rfl
    have HC := Lib.hid hc
    clear hc h2 hv1
    go_wp2
    go_ret2
    exact ⟨hb1.trans (h3.mono hb1.size), N, rfl, HC.out⟩
  · rw [h] at hI
    have hI : Calls Tryd.prog 79 #[.string s, .int .i64 10, .int .i64 63] w fun e w' => e = .returned (.tuple #[.int .u64 9223372036854775807, .iface 127 (.int .i64 1)]) ∧ Below w.heap.size w w' := hI
    clear h
    go_enter Tryd.func70, Tryd.ntmps70
    go_wp2_with (go_at_call 79; refine hI.mono ?_)
    rintro e W1 ⟨rfl, hb1⟩
    have hv1 : W1.cell? ⟨1, 0, none⟩ = some (.iface 152 (.pointer (some aR))) := (hb1.cell (p := ⟨1, 0, none⟩) (show 1 < w.heap.size by omega)).trans hR
    go_wp2_with fail
    go_at_call 80
    refine (Tryd.strconv_toError_range ⟨#[80, 97, 114, 115, 101, 85, 105, 110, 116]⟩ s 10 63 _ _ hlim hv1 (.inr ⟨_, _, rfl⟩)).mono ?_
    rintro e W2 ⟨N, rfl, h1, h2, h3⟩
    have hc : W2.cell? ⟨N, 2, none⟩ = some (.iface 152 (.pointer (some aR))) := by rw [cell_of_row _ _ _ _ _ _ h2]; rfl
    have HC := Lib.hid hc
    clear hc h2 hv1
    go_wp2
    go_ret2
    exact ⟨hb1.trans (h3.mono hb1.size), N, rfl, HC.out⟩
end Go.Proofs.YtakckmelojobkaaDoor.num
