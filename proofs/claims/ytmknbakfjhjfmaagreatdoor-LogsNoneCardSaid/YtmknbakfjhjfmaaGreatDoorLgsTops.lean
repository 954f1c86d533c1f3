/- Logs: what the row's listed variables give the walks. -/
import Derived.Test.YtmknbakfjhjfmaaGreatDoorWords
import Derived.ShutString
import Derived.ChangeOld
import Derived.SliceStrings
import Derived.Test.YtmknbakfjhjfmaaGreatDoorFrmWords
import Derived.ProofKit
import Derived.LaidMore
import Derived.OpenShut
import Derived.Stop.Joined
import Derived.Stop.LaidTwo
import Derived.LaidHandle
/-! What comes in: a list of texts that is read as data, said by what stands behind its address. -/
namespace Go.Proofs.YtmknbakfjhjfmaaGreatDoor
open Go.ChangeShapes Go.WideShapes Go.ChangeAt Go.RowKit

theorem own : ownKnob Tryz.prog.godebug = none := by kernel_rfl
theorem laidOut : laidOutB Tryz.prog = true := by kernel_rfl

/-- A list that came in: its lines, each of a length that may be. -/
def IsList (w : World) (A : Option Addr) (n c : Nat) (zs : List ByteArray) : Prop :=
  n = zs.length ∧ (A = none → c = 0) ∧ n ≤ maxLen ∧ (∀ z ∈ zs, z.size ≤ maxLen) ∧ SRd w w.heap.size A zs

set_option maxRecDepth 100000 in
theorem open_list {H : Type} {enc : TypeId × Value → H} {W : World} {base : Nat} {v : Value} {d : DataW H} {p : List MemPlace}
    (hv : Value.okWide Tryz.prog W .any base 22 v) (h : DataW.Trod enc Tryz.prog W 0 (fun _ => true) true 22 v d p) :
    (∃ A n c zs, v = .slice A n c ∧ IsList W A n c zs) ∧ (∀ x ∈ p, x.block < W.heap.size) := by
  obtain ⟨A, n, c, rfl⟩ := okWide_slice Tryz.underlying22 hv
  refine ⟨⟨A, n, c, ?_⟩, by obtain ⟨m, hm⟩ := h; exact DataW.trod_lt m _ _ _ hm⟩
  obtain ⟨fuel, hf⟩ := h
  rcases open_strings Tryz.underlying22 Tryz.underlying9 (by kernel_rfl) hf with ⟨hcs, _⟩ | ⟨x, l, c', ss, hcs, _, hl, hm, hz, _, hcell, hws⟩
  · simp [Value.cells] at hcs
    obtain ⟨rfl, rfl, rfl⟩ := hcs
    exact ⟨[], rfl, rfl, fun _ => rfl, Nat.zero_le _, by simp, SRd.nil⟩
  · simp [Value.cells] at hcs
    obtain ⟨rfl, rfl, rfl⟩ := hcs
    have hz' : ss.length = c := by simpa using hz
    refine ⟨ss.take n, rfl, by rw [List.length_take]; omega, fun h => by (cases h), by omega, fun z hz => hws z (List.mem_of_mem_take hz), fun h0 => ?_⟩
    obtain ⟨b, off, spot⟩ := x
    have hn : (ss.take n).length = n := by rw [List.length_take]; omega
    rw [hn] at h0
    have hspot : spot = none := by simpa [Addr.add] using World.cell?_spot (hcell 0 (by omega))
    subst hspot
    have hb := World.block_lt_of_cell? _ _ (by rw [← Go.WideShapes.add_plain]; exact hcell 0 (by omega) : W.cell? ⟨b, off + 0, none⟩ = _)
    refine ⟨b, off, rfl, hb, fun j hj => ?_⟩
    rw [hn] at hj
    rw [← Go.WideShapes.add_plain, hcell j (by omega)]
    have : (ss.take n).getD j ByteArray.empty = ss.getD j ByteArray.empty := by simp [hj]
    rw [this]
end Go.Proofs.YtmknbakfjhjfmaaGreatDoor

/-! Logs: what the row's listed variables give the walks. -/
namespace Go.Proofs.YtmknbakfjhjfmaaGreatDoor.frm
open Go.ChangeShapes Go.WideShapes Go.ChangeAt Go.WideMaps Go.WideElems Go.RowKit

theorem gES : Tryz.prog.globalNamed "strconv.ErrSyntax" = some 3 := by kernel_rfl
theorem gER : Tryz.prog.globalNamed "strconv.ErrRange" = some 4 := by kernel_rfl
theorem gESType : (Tryz.prog.globals[3]?).map (·.type) = some 53 := by kernel_rfl
theorem gERType : (Tryz.prog.globals[4]?).map (·.type) = some 53 := by kernel_rfl
theorem gTabType : (Tryz.prog.globals[1]?).map (·.type) = some 196 := by kernel_rfl
theorem cells109 : Tryz.prog.cellsOf 241 = 1 := by kernel_rfl
theorem cells9 : Tryz.prog.cellsOf 9 = 1 := by kernel_rfl
theorem cells57 : Tryz.prog.cellsOf 108 = 1 := by kernel_rfl
theorem cells95 : Tryz.prog.cellsOf 196 = 20 := by kernel_rfl
theorem starName : "*" ++ "errors.errorString" = "*errors.errorString" := by decide
theorem row107 (u : TypeId) (h : Tryz.prog.typeName? 3 u = some "*errors.errorString") : u = 239 :=
  typeName_ptr_named (nm := "errors.errorString") (by rw [starName]; kernel_rfl) (by kernel_rfl) (by decide) u (by rw [starName]; exact h)
theorem gTab64 : Tryz.prog.globalNamed "math/bits.deBruijn64tab" = some 6 := by kernel_rfl
theorem gTab64Type : (Tryz.prog.globals[6]?).map (·.type) = some 226 := by kernel_rfl
theorem cells5 : Tryz.prog.cellsOf 5 = 1 := by kernel_rfl
theorem cells82 : Tryz.prog.cellsOf 226 = 64 := by kernel_rfl
theorem gET : Tryz.prog.globalNamed "errors.errorType" = some 0 := by kernel_rfl
theorem rtypeIs : (Tryz.prog.cutTypes.find? (·.1 == "internal/reflectlite.rtype")).map (·.2) = some 146 := by kernel_rfl
theorem oneRow : ((List.range (368 - 100)).filter fun t => Tryz.prog.rowNamed t [101, 114, 114, 111, 114]) = [53] := by kernel_rfl
theorem typesSize : Tryz.prog.types.size = 368 - 100 := by kernel_rfl

/-- The rows' list. -/
abbrev laid6 : List (String × DataW Unit) := Rows.logsNoneRow.laid
abbrev tab64 : List Int := [0, 1, 56, 2, 57, 49, 28, 3, 61, 58, 42, 50, 38, 29, 17, 4, 62, 47, 59, 36, 45, 43, 51, 22, 53, 39, 33, 30, 24, 18, 12, 5, 63, 55, 48, 27, 60, 41, 37, 16, 46, 35, 44, 21, 52, 32, 23, 11, 54, 26, 40, 15, 34, 20, 31, 10, 25, 14, 19, 9, 13, 8, 7, 6]
abbrev plain5 : List (String × DataW Unit) := [("math/bits.deBruijn32tab", Rows.laid_math_bits_deBruijn32tab), ("math/bits.deBruijn64tab", Lib.tabData .u8 tab64), ("internal/strconv.uint64pow10", Lib.tabData .u64 Lib.pow10Tab),
    ("strconv.ErrRange", .iface "*errors.errorString" (.ptr (.agg [.lit (.string [118, 97, 108, 117, 101, 32, 111, 117, 116, 32, 111, 102, 32, 114, 97, 110, 103, 101])]))),
    ("strconv.ErrSyntax", .iface "*errors.errorString" (.ptr (.agg [.lit (.string [105, 110, 118, 97, 108, 105, 100, 32, 115, 121, 110, 116, 97, 120])])))]
abbrev handle1 : List (String × DataW Unit) := [("errors.errorType", .iface "internal/reflectlite.rtype" (.agg [.ptr (.lit (.string [101, 114, 114, 111, 114]))]))]

theorem door_met (os : Os) (args : Array Value) : laidMetH Tryz.prog laid6 ((World.doorLaid Tryz.prog 69 os).forCall (fun _ _ => 0) ⟨#[], args, []⟩).memory :=
  laidMetH_of_parts3 (fuel := 8) (laidMet_of_run' 8 (by kernel_rfl) (by kernel_rfl)) (by kernel_rfl) (by kernel_rfl)

theorem vars_of_laid {W : World} (h : laidMetH Tryz.prog laid6 W) : Vars W.heap.size W := by
  have h' : laidMet Tryz.prog plain5 W ∧ handlesMet Tryz.prog handle1 W := h
  obtain ⟨hp, hh⟩ := h'
  have h1 := hp.tail
  have hT64 := Lib.tabIs_of_head gTab64 gTab64Type Tryz.underlying226 Tryz.underlying5 cells5 cells82 h1
  have hc64 := hT64.cell gTab64 15 (by decide)
  have h2 := h1.tail
  have hT := Lib.tabIs_of_head num.gTab gTabType Tryz.underlying196 Tryz.underlying108 cells57 cells95 h2
  obtain ⟨aR, aS, s0, s1, c0, c1, t0, t1, hv0, hv1, hc0, _, _, hc1, _, _, hne, hb0, hb1⟩ := laid_sentinels2 h2.tail gER gERType gES gESType Tryz.underlying53 row107 Tryz.underlying239 Tryz.underlying241 rfl rfl Tryz.underlying9 cells109 cells9
  have lt_of : ∀ {b : Nat} {o : Obj}, W.heap[b]? = some o → b < W.heap.size := fun {b o} hb => by
    rcases Nat.lt_or_ge b W.heap.size with h | h
    · exact h
    · rw [Array.getElem?_eq_none h] at hb; cases hb
  have lt_of_cell : ∀ {b o : Nat} {v : Value}, W.cell? ⟨b, o, none⟩ = some v → b < W.heap.size := fun {b o v} hb => World.block_lt_of_cell? _ _ hb
  have h6 : 1 < W.heap.size := by
    rcases Nat.lt_or_ge 1 W.heap.size with h | h
    · exact h
    · exfalso
      have hT' := hT
      unfold Lib.TabIs World.var? at hT'
      rw [num.gTab] at hT'
      simp [Array.getElem?_eq_none h] at hT'
  have hS : W.cell? ⟨3, 0, none⟩ = some (.iface 239 (.pointer (some aS))) := by have h0 := World.var?_cell gES hv1 0; simpa using h0
  have hR : W.cell? ⟨4, 0, none⟩ = some (.iface 239 (.pointer (some aR))) := by have h0 := World.var?_cell gER hv0 0; simpa using h0
  have hE : W.cell? ⟨0, 0, none⟩ = some (.iface 146 (.agg #[.pointer (some ⟨7, 53, none⟩)])) := by
    obtain ⟨name, u, ty, e1, e2, e3, e4, e5⟩ := hh _ (List.mem_singleton.2 rfl)
    have en : name = [101, 114, 114, 111, 114] := (Option.some.inj e1).symm
    subst en
    obtain rfl := Option.some.inj (rtypeIs.symm.trans e2)
    have hm : ty ∈ (List.range (368 - 100)).filter fun t => Tryz.prog.rowNamed t [101, 114, 114, 111, 114] := List.mem_filter.2 ⟨List.mem_range.2 (by rw [← typesSize]; exact e3), e4⟩
    rw [oneRow] at hm
    obtain rfl := List.mem_singleton.1 hm
    have hth : typeHandle Tryz.prog 53 = .pointer (some ⟨7, 53, none⟩) := by kernel_rfl
    rw [hth] at e5
    simpa using World.var?_cell gET e5 0
  exact ⟨⟨⟨lt_of_cell hS, lt_of_cell hR, h6⟩, hT, aS, aR, c1, c0, t1, t0, hS, hR, hne.symm, lt_of hb1, lt_of hb0, hb1, hb0⟩, ⟨lt_of_cell hc64, hc64⟩, lt_of_cell hE, hE⟩

theorem nat_u16 {a : Int} (h : (Lit.int .u16 a).wf = true) : ∃ n : Nat, a = n ∧ n < 65536 := by
  simp [Lit.wf, IntKind.min, IntKind.max, IntKind.signed, IntKind.bits] at h
  exact ⟨a.toNat, by omega, by omega⟩
theorem byte_u8 {a : Int} (h : (Lit.int .u8 a).wf = true) : ∃ c : UInt8, a = (c.toNat : Int) := by
  simp [Lit.wf, IntKind.min, IntKind.max, IntKind.signed, IntKind.bits] at h
  exact ⟨UInt8.ofNat a.toNat, by rw [UInt8.toNat_ofNat_of_lt' (by show a.toNat < 256; omega)]; omega⟩
theorem int_i64 {a : Int} (h : (Lit.int .i64 a).wf = true) : -9223372036854775808 ≤ a ∧ a ≤ 9223372036854775807 := by
  simp [Lit.wf, IntKind.min, IntKind.max, IntKind.signed, IntKind.bits] at h
  exact ⟨by omega, by omega⟩
end Go.Proofs.YtmknbakfjhjfmaaGreatDoor.frm
