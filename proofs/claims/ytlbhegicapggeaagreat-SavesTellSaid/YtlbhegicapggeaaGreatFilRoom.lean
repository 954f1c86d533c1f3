/- Files: whether there is room. -/
import Derived.Test.YtlbhegicapggeaaGreatFilNames
import Derived.Deep.RegionHeld3
import Derived.IntWalk
namespace Go.Proofs.YtlbhegicapggeaaGreat.fil
open Go.RowKit Go.Lib Go.Maps Go.WideMaps
set_option linter.unusedVariables false
set_option linter.unusedSimpArgs false
set_option linter.unnecessarySimpa false
set_option linter.unusedSectionVars false

section
variable {q : Bool} {F : Nat → Prop} {fb mb : Nat} {D : DataW Unit} {G : List Gf} {dp : Option Addr} {s : St}

/-- Whether a file may have so many bytes more, and be a file more, if it is one. -/
def room (s : St) (nm : List UInt8) (m : Nat) : Bool := !((find s.files nm).isNone && decide (32 ≤ s.files.length)) && decide (total s.files + m ≤ s.cap)
theorem errAppend_room (s : St) (nm : List UInt8) (m : Nat) : errAppend s nm m = if isNm nm = false then 2 else if room s nm m = false then 50 else 0 := by
  unfold errAppend room
  split
  · rfl
  · cases (find s.files nm).isNone && decide (32 ≤ s.files.length)
    · by_cases h : total s.files + m ≤ s.cap
      · simp [h, Nat.not_lt.2 h]
      · simp [h, Nat.lt_of_not_le h]
    · simp

/-- 'Below', as one word that no step opens. -/
def More (p : Nat) (wb W : World) : Prop := Below p wb W
theorem More.to {p : Nat} {wb W : World} (h : More p wb W) : Below p wb W := h

/-- What the last region of hasRoom keeps. -/
def RoomS (fb cap : Nat) (w W : World) : Prop := W.cell? ⟨fb, 0, none⟩ = some (.int .i64 cap) ∧ Below w.heap.size w W

set_option maxHeartbeats 2000000 in
set_option maxRecDepth 100000 in
theorem hasRoom_is (nm : ByteArray) (m : Nat) (w : World) (hn : nm.size ≤ maxLen) (hm : m ≤ 9223372036854775807) (h : Fz q w fb mb D G dp s F) :
    Calls Tryz.prog 66 #[.pointer (some ⟨fb, 0, none⟩), .string nm, .int .i64 m] w fun e w' => e = .returned (.bool (room s nm.data.toList m)) ∧ Below w.heap.size w w' := by
  obtain ⟨c0, c1, _⟩ := h.cells
  have hfb : fb < w.heap.size := h.head.lt
  have hcap := h.ok.cap2
  have hroom := h.ok.room
  have LL := h.map.len Tryz.underlying47 3
  have hGl : s.files.length = G.length := by rw [h.files, List.length_map]
  have C : Hid (∀ W, W.cell? ⟨fb, 0, none⟩ = some (.int .i64 s.cap) ∧ More w.heap.size w W → Calls Tryz.prog 51 #[.pointer (some ⟨fb, 0, none⟩)] W fun e w' => e = .returned (.int .i64 (total s.files)) ∧ (w'.cell? ⟨fb, 0, none⟩ = some (.int .i64 s.cap) ∧ More w.heap.size w w')) := Lib.hid fun W hW =>
    (size_is W (h.below hW.2)).mono fun e w' hh => ⟨hh.1, by
      have hz := Below.size hW.2
      exact ⟨(hh.2.cell (p := ⟨fb, 0, none⟩) (by show fb < _; omega)).trans hW.1, Below.trans hW.2 (hh.2.mono hz)⟩⟩
  have S0 : w.drew.cell? ⟨fb, 0, none⟩ = some (.int .i64 s.cap) ∧ More w.heap.size w w.drew := ⟨c0, (Below.refl _ _).drew⟩
  rw [h.isMap.size] at LL
  unfold room
  rw [hGl]
  rcases hf : find s.files nm.data.toList with _ | x
  · have L := h.look0 nm hn hf
    by_cases h32 : 32 ≤ G.length
    · have hd : decide ((32 : Int) ≤ (G.length : Int)) = true := by simp; omega
      have hd2 : decide (32 ≤ G.length) = true := by simp; omega
      rw [hd2]
      clear h hf hGl C hd2 S0
      go_enter Tryz.func66, Tryz.ntmps66
      go_wp2
      go_ret
      exact ⟨rfl, Below.refl _ _⟩
    · have hd : decide ((32 : Int) ≤ (G.length : Int)) = false := by simp; omega
      have hd2 : decide (32 ≤ G.length) = false := by simp; omega
      rw [hd2]
      clear h hf hGl hd2
      generalize hT : total s.files = T at *
      clear hT
      go_enter Tryz.func66, Tryz.ntmps66
      go_wp2
      obtain ⟨S1, S2⟩ := S0
      go_region_held3 (fun W => W.cell? ⟨fb, 0, none⟩ = some (.int .i64 s.cap) ∧ More w.heap.size w W) (first | assumption | exact ⟨by assumption, by assumption⟩)
        (first
          | (go_at_call 51; refine (C.out _ ?_).mono ?_; (assumption); rintro e w' ⟨rfl, hS⟩))
      rename_i hS
      have hE : Below w.heap.size w _ := hS.2
      clear S1 S2
      go_wp2
      go_ret
      have hwr : IntKind.i64.wrap ((s.cap : Int) - (T : Int)) = (s.cap : Int) - (T : Int) := IntWalk.i64_in _ (by omega)
      exact ⟨ret_bool (by rw [hwr]; simp; omega), hE⟩
  · obtain ⟨g, hg, rfl, he⟩ := h.has hf
    have L := h.look1 nm hn hg he
    clear h hf he hg hGl
    generalize hT : total s.files = T at *
    clear hT
    go_enter Tryz.func66, Tryz.ntmps66
    go_wp2
    obtain ⟨S1, S2⟩ := S0
    go_region_held3 (fun W => W.cell? ⟨fb, 0, none⟩ = some (.int .i64 s.cap) ∧ More w.heap.size w W) (first | assumption | exact ⟨by assumption, by assumption⟩)
      (first
        | (go_at_call 51; refine (C.out _ ?_).mono ?_; (assumption); rintro e w' ⟨rfl, hS⟩))
    rename_i hS
    have hE : Below w.heap.size w _ := hS.2
    clear S1 S2
    go_wp2
    go_ret
    have hwr : IntKind.i64.wrap ((s.cap : Int) - (T : Int)) = (s.cap : Int) - (T : Int) := IntWalk.i64_in _ (by omega)
    exact ⟨ret_bool (by rw [hwr]; simp; omega), hE⟩
end
end Go.Proofs.YtlbhegicapggeaaGreat.fil
