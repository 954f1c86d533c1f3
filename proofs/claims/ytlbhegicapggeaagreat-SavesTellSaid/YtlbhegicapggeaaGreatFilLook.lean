/- Files: what is asked of a file system that is one, and of one that is none: the small ones. -/
import Derived.Test.YtlbhegicapggeaaGreatFilWords
import Derived.Test.YtlbhegicapggeaaGreatShelf
import Derived.Test.YtlbhegicapggeaaGreatIter
import Derived.Lib.Hide
import Derived.StringKeys
import Derived.WalkLawsBesides
import Derived.WalkSpells
import Derived.Deep.QuietTactic
import Derived.BigQuiet
namespace Go.Proofs.YtlbhegicapggeaaGreat.fil
open Go.RowKit Go.Lib Go.Maps Go.WideMaps
set_option linter.unusedVariables false
set_option linter.unusedSimpArgs false
set_option linter.unnecessarySimpa false
set_option linter.unusedSectionVars false

theorem zeroP (w : World) : (zeroValue 73).run Tryz.prog w = .ok (.pointer none) w := by kernel_rfl

section
variable {q : Bool} {w : World} {F : Nat → Prop} {p : Option Addr} {fb mb : Nat} {D : DataW Unit} {G : List Gf} {s : St}
theorem Fz.cells (h : Fz q w fb mb D G p s F) : w.cell? ⟨fb, 0, none⟩ = some (.int .i64 s.cap) ∧ w.cell? ⟨fb, 1, none⟩ = some (.map (some mb)) ∧ w.cell? ⟨fb, 2, none⟩ = some (.bool s.off) ∧
    w.cell? ⟨fb, 3, none⟩ = some (.int .i64 s.starts) ∧ w.cell? ⟨fb, 4, none⟩ = some (.pointer p) ∧ ∀ i, w.frozen? ⟨fb, i, none⟩ = false :=
  ⟨h.head.cell 0, h.head.cell 1, h.head.cell 2, h.head.cell 3, h.head.cell 4, h.head.frozen⟩
theorem Fz.drewN (h : Fz q w fb mb D G p s F) (n : Nat) : Fz q (w.drewN n) fb mb D G p s F := h.same (fun _ _ => rfl) (Nat.le_refl _)
theorem Fz.drew (h : Fz q w fb mb D G p s F) : Fz q w.drew fb mb D G p s F := h.same (fun _ _ => rfl) (Nat.le_refl _)
theorem Fz.look0 (h : Fz q w fb mb D G p s F) (nm : ByteArray) (hn : nm.size ≤ maxLen) (hf : find s.files nm.data.toList = none) :
    (Instr.lookup 47 (.map (some mb)) (.string nm) false).run Tryz.prog w = .ok (.pointer none) w := by
  obtain ⟨v, ps, hrun, hv⟩ := h.map.lookup (string_keyed Tryz.underlying9) Tryz.underlying47 (zeroP w) (zd := .lit (.int .i64 (-1))) (zp := []) rfl (keyOf_string_mk Tryz.underlying9 hn)
  have hm : Maps.has D (.string nm.data.toList) = false := h.isMap.miss (fun g hg e => find_none.1 hf g.f (by rw [h.files]; exact List.mem_map_of_mem hg) e)
  rw [atKey_of_not_has hm] at hv
  rw [hrun, ptrE_none hv]
theorem Fz.look1 (h : Fz q w fb mb D G p s F) (nm : ByteArray) (hn : nm.size ≤ maxLen) {g : Gf} (hg : g ∈ G) (he : g.f.name = nm.data.toList) :
    (Instr.lookup 47 (.map (some mb)) (.string nm) false).run Tryz.prog w = .ok (.pointer (some ⟨g.blk, 0, none⟩)) w := by
  obtain ⟨v, ps, hrun, hv⟩ := h.map.lookup (string_keyed Tryz.underlying9) Tryz.underlying47 (zeroP w) (zd := .lit (.int .i64 (-1))) (zp := []) rfl (keyOf_string_mk Tryz.underlying9 hn)
  rw [← he, h.isMap.vals g hg] at hv
  rw [hrun, ptrE_some hv]
theorem Fz.has (h : Fz q w fb mb D G p s F) {x : Fl} {nm : List UInt8} (hf : find s.files nm = some x) : ∃ g ∈ G, g.f = x ∧ g.f.name = nm := by
  obtain ⟨h1, h2⟩ := find_mem hf
  rw [h.files] at h1
  obtain ⟨g, hg, rfl⟩ := List.mem_map.1 h1
  exact ⟨g, hg, rfl, h2⟩
end

/-- One that is none: nil, or one that New did not make. -/
def NoFs (w : World) (p : Option Addr) : Prop := p = none ∨ ∃ fb, p = some ⟨fb, 0, none⟩ ∧ At w fb 50 #[.int .i64 0, .map none, .bool false, .int .i64 0, .pointer none]

theorem isNone_no (p : Option Addr) (w : World) (h : NoFs w p) : Calls Tryz.prog 76 #[.pointer p] w fun e w' => e = .returned (.bool true) ∧ w = w' := by
  rcases h with rfl | ⟨fb, rfl, h⟩
  · go_enter Tryz.func76, Tryz.ntmps76
    go_wp2
    go_ret
    exact ⟨rfl, rfl⟩
  · have c0 : w.cell? ⟨fb, 0, none⟩ = some (.int .i64 0) := h.cell 0
    clear h
    go_enter Tryz.func76, Tryz.ntmps76
    go_wp2
    go_ret
    exact ⟨rfl, rfl⟩

section
variable {q : Bool} {F : Nat → Prop} {fb mb : Nat} {D : DataW Unit} {G : List Gf} {p : Option Addr} {s : St}
theorem isNone_is (w : World) (h : Fz q w fb mb D G p s F) : Calls Tryz.prog 76 #[.pointer (some ⟨fb, 0, none⟩)] w fun e w' => e = .returned (.bool false) ∧ w = w' := by
  have c0 := h.cells.1
  have hc : ((s.cap : Int) == 0) = false := by have := h.ok.cap1; simp; omega
  clear h
  go_enter Tryz.func76, Tryz.ntmps76
  go_wp2
  go_ret
  exact ⟨rfl, rfl⟩

theorem useless_no (p : Option Addr) (w : World) (h : NoFs w p) : Calls Tryz.prog 56 #[.pointer p] w fun e w' => e = .returned (.int .i64 1) ∧ w = w' := by
  have C := Lib.hid (isNone_no p w h)
  clear h
  go_enter Tryz.func56, Tryz.ntmps56
  go_wp2_with (go_at_call 76; refine C.out.mono ?_; rintro e w' ⟨rfl, rfl⟩)
  go_ret
  exact ⟨rfl, rfl⟩

/-- What stands against whatever is asked of a system: it is off. -/
def down (s : St) : Int := if s.off = true then 51 else 0
theorem useless_is (w : World) (h : Fz q w fb mb D G p s F) : Calls Tryz.prog 56 #[.pointer (some ⟨fb, 0, none⟩)] w fun e w' => e = .returned (.int .i64 (down s)) ∧ w = w' := by
  have C := Lib.hid (isNone_is w h)
  have c2 := h.cells.2.2.1
  unfold down
  rcases hb : s.off with _ | _
  · rw [hb] at c2
    clear h hb
    go_enter Tryz.func56, Tryz.ntmps56
    go_wp2_with (go_at_call 76; refine C.out.mono ?_; rintro e w' ⟨rfl, rfl⟩)
    go_ret
    exact ⟨rfl, rfl⟩
  · rw [hb] at c2
    clear h hb
    go_enter Tryz.func56, Tryz.ntmps56
    go_wp2_with (go_at_call 76; refine C.out.mono ?_; rintro e w' ⟨rfl, rfl⟩)
    go_ret
    exact ⟨rfl, rfl⟩

set_option maxRecDepth 100000 in
theorem missing_is (nm : ByteArray) (w : World) (hn : nm.size ≤ maxLen) (h : Fz q w fb mb D G p s F) :
    Calls Tryz.prog 57 #[.pointer (some ⟨fb, 0, none⟩), .string nm] w fun e w' => e = .returned (.int .i64 (errThere s nm.data.toList)) ∧ w = w' := by
  have c1 := h.cells.2.1
  unfold errThere
  rcases hf : find s.files nm.data.toList with _ | x
  · have L := h.look0 nm hn hf
    clear h hf
    go_enter Tryz.func57, Tryz.ntmps57
    go_wp2
    go_ret
    exact ⟨rfl, rfl⟩
  · obtain ⟨g, hg, rfl, he⟩ := h.has hf
    have L := h.look1 nm hn hg he
    clear h hf he hg
    go_enter Tryz.func57, Tryz.ntmps57
    go_wp2
    go_ret
    exact ⟨rfl, rfl⟩

theorem inAir_is (w : World) {g : Gf} (h : FileAt w F g) (hp : g.f.plat ≤ g.f.bytes.length) (hl : g.f.bytes.length ≤ 1048576) :
    Calls Tryz.prog 80 #[.pointer (some ⟨g.blk, 0, none⟩)] w fun e w' => e = .returned (.int .i64 ((g.f.bytes.length - g.f.plat : Nat) : Int)) ∧ ∃ n, w' = w.drewN n := by
  have c0 : w.cell? ⟨g.blk, 0, none⟩ = some g.v := h.blk.cell 0
  have c1 : w.cell? ⟨g.blk, 1, none⟩ = some (.int .i64 g.f.plat) := h.blk.cell 1
  obtain ⟨A, c, hv⟩ : ∃ A c, g.v = .slice A g.f.bytes.length c := by
    rcases h.row.2 with ⟨hv, h0⟩ | ⟨b, cap, _, hv, _⟩
    · exact ⟨none, 0, by rw [hv, h0]⟩
    · exact ⟨_, _, hv⟩
  rw [hv] at c0
  clear h hv
  generalize g.f.bytes.length = n at *
  generalize g.f.plat = k at *
  generalize g.blk = b at *
  go_enter Tryz.func80, Tryz.ntmps80
  go_wp2
  go_quiet (fail)
  go_wp2
  go_ret
  exact ⟨ret_int (by omega), _, rfl⟩

theorem isName_is (nm : ByteArray) (w : World) (hn : nm.size ≤ maxLen) : Calls Tryz.prog 65 #[.string nm] w fun e w' => e = .returned (.bool (isNm nm.data.toList)) ∧ w = w' := by
  have hb : nm.size ≤ 9223372036854775807 := by unfold maxLen at hn; omega
  have hz : nm.data.toList.length = nm.size := by rw [Array.length_toList]; rfl
  unfold isNm
  rw [hz]
  by_cases h0 : nm.size = 0
  · obtain rfl : nm = ⟨#[]⟩ := by
      cases nm with
      | mk d => congr; exact Array.eq_empty_of_size_eq_zero h0
    go_enter Tryz.func65, Tryz.ntmps65
    go_wp2
    go_ret
    exact ⟨rfl, rfl⟩
  · have he' : ¬ nm.data.toList = [] := fun e => by rw [e] at hz; simp at hz; omega
    have he : ¬ nm.toList = [] := by rw [Lib.toList_data]; exact he'
    have he2 : nm.toList.isEmpty = false := by rw [Lib.toList_data]; simpa using he'
    clear he'
    have hq : decide (1 ≤ nm.size) = true := by simp; omega
    rw [hq]
    clear hz
    go_enter Tryz.func65, Tryz.ntmps65
    go_wp2
    go_ret
    exact ⟨ret_bool (by simp; omega), rfl⟩
end
end Go.Proofs.YtlbhegicapggeaaGreat.fil
