/- Whole, the program's and the document's. -/
import Derived.Test.YtljpclfeogiohaaGreatDoorFrmRefNext
namespace Go.Proofs.YtljpclfeogiohaaGreatDoor.frm
open Go.RowKit Go.Lib

/-- What Whole tells: the payloads of all frames from the front on, in memory of its own, and where they end. -/
def WholeSays (l : List UInt8) (w : World) (e : Ending) (w' : World) : Prop :=
  Below w.heap.size w w' ∧ ∃ (ps : List (List UInt8)) (A : Option Addr) (n c k : Nat), IsWhole l ps ∧ n = ps.length ∧ k = (frs ps).length ∧ n ≤ c ∧ c ≤ maxLen ∧
    e = .returned (.tuple #[.slice A n c, .int .i64 k]) ∧ SRd w' w'.heap.size A (ps.map B)
theorem WholeSays.made {l : List UInt8} {w w' : World} {ps : List (List UInt8)} {v : Value} {n k : Nat} (h : IsWhole l ps) (hB : Below w.heap.size w w') (hn : n = ps.length) (hk : k = (frs ps).length)
    (ho : w'.ownsRow w.heap.size 9 1 v n (strs ps)) : WholeSays l w (.returned (.tuple #[v, .int .i64 k])) w' := by
  obtain ⟨A, c, rfl⟩ := own_form ho
  have hc : n ≤ c ∧ c ≤ maxLen := by
    rcases A with _ | a
    · rcases ho.2 with ⟨h1, h2⟩ | ⟨g, cap, _, h1, _⟩
      · have : c = 0 := by simp at h1; omega
        subst this; exact ⟨by omega, Nat.zero_le _⟩
      · cases h1
    · exact own_cap ho
  exact ⟨hB, ps, A, n, c, k, h, hn, hk, hc.1, hc.2, rfl, SRd.of_row (by rw [List.length_map]; exact hn) ho⟩

/-- How far one has come: pre stand ahead of the place q. -/
def GotF (l : List UInt8) (q : Nat) (pre : List (List UInt8)) : Prop := (∀ p ∈ pre, p.length ≤ MF) ∧ q = (frs pre).length ∧ q ≤ l.length ∧ l = frs pre ++ l.drop q
theorem GotF.start (l : List UInt8) : GotF l 0 [] := ⟨by simp, rfl, Nat.zero_le _, rfl⟩
theorem GotF.next {l : List UInt8} {q : Nat} {pre : List (List UInt8)} (h : GotF l q pre) : nextAt l q = nextL (l.drop q) := nextAt_nat h.2.2.1
theorem GotF.step {l : List UInt8} {q : Nat} {pre : List (List UInt8)} {p : List UInt8} (h : GotF l q pre) (hn : nextAt l q = some p) : GotF l (q + (frameL p).length) (pre ++ [p]) := by
  rw [h.next] at hn
  have hd := nextL_drop hn
  have hl := (nextL_iff.1 hn).2.length_le
  rw [List.length_drop] at hl
  have hp := frameL_pos p
  refine ⟨fun x hx => ?_, by rw [frs_snoc, List.length_append, h.2.1], by omega, ?_⟩
  · rcases List.mem_append.1 hx with hx | hx
    · exact h.1 x hx
    · rw [List.mem_singleton.1 hx]; exact (nextL_iff.1 hn).1
  · rw [frs_snoc, List.append_assoc, ← List.drop_drop, ← hd]
    exact h.2.2.2
theorem GotF.done {l : List UInt8} {q : Nat} {pre : List (List UInt8)} (h : GotF l q pre) (hn : nextAt l q = none) : IsWhole l pre := by
  rw [h.next] at hn
  exact ⟨h.1, l.drop q, h.2.2.2, hn⟩
theorem GotF.few {l : List UInt8} {q : Nat} {pre : List (List UInt8)} (h : GotF l q pre) : 11 * pre.length ≤ q := by rw [h.2.1]; exact frs_count pre

set_option maxHeartbeats 4000000 in
set_option maxRecDepth 100000 in
theorem whole17 (s : ByteArray) (w : World) (hs : s.size ≤ 1000000) (hV : Vars w.heap.size w) :
    Calls Tryz.prog 17 #[.string s] w (WholeSays s.data.toList w) := by
  obtain ⟨i0, hi, hz0, hz1, hz2⟩ := info_parts info9
  have hml : (1000000 : Nat) ≤ maxLen := by unfold maxLen; omega
  have SZ := Lib.hid (size_list s)
  have G0 := Lib.hid (GotF.start s.data.toList)
  go_enter Tryz.func17, Tryz.ntmps17
  go_wp2_with fail
  go_loopg [2, 3] s.size (fun g s2 s3 wr => ∃ (q : Nat) (pre : List (List UInt8)), s3 = .int .i64 q ∧ q ≤ s.size ∧ s.size - q ≤ g ∧ pre.length ≤ q ∧ wr.ownsRow w.heap.size 9 1 s2 pre.length (strs pre) ∧ Below w.heap.size w wr ∧ Hid (GotF s.data.toList q pre))
  case atStart => exact ⟨0, [], rfl, Nat.zero_le _, by omega, by simp, World.ownsRow_nil _ _ _ _, Below.refl _ _, G0⟩
  case round =>
    obtain ⟨q, pre, rfl, hq, hg, hpl, hown, hbw, HR⟩ := hrel
    have hsz := hbw.size
    have D := Lib.hid (next15 s q wr hs ((hV.below hbw).more hsz))
    clear G0
    rcases ht : nextAt s.data.toList q with _ | p
    · rw [ht] at D
      have HD := Lib.hid (HR.out.done ht)
      have HK := Lib.hid HR.out.2.1
      clear ht HR
      simp only [retF] at D
      go_wp2_with fail
      go_at_call 15
      refine D.out.mono ?_
      rintro e w2 ⟨rfl, hB2⟩
      have hbw2 := hbw.trans (hB2.mono hsz)
      have hown2 := own_below hown hB2
      go_wp2
      go_ret2
      exact WholeSays.made HD.out hbw2 rfl HK.out hown2
    · rw [ht] at D
      have HN := Lib.hid (HR.out.step ht)
      clear ht HR
      simp only [retF] at D
      have hq2 : q + (frameL p).length ≤ s.size := by have := HN.out.2.2.1; rw [size_list] at this; exact this
      have hpl2 : pre.length + 1 ≤ q + (frameL p).length := by have := HN.out.few; simp only [List.length_append, List.length_singleton] at this; omega
      have hf := frameL_pos p
      generalize (frameL p).length = pt at D HN hq2 hpl2 hf
      go_wp2_with fail
      go_at_call 15
      refine D.out.mono ?_
      rintro e w2 ⟨rfl, hB2⟩
      have hbw2 := hbw.trans (hB2.mono hsz)
      have hown2 := own_below hown hB2
      have hz2' := hbw2.size
      clear D hB2 hown hbw
      go_wp2_with (at_builtin; refine wpList_append_own _ rfl (.tmp 18) (.tmp 20) 29 rfl w.heap.size 9 i0 (.string ⟨#[]⟩) 1 16 Tryz.underlying29 hi hz0 hz1 hz2 rfl (by decide) _ _ _ rfl (hown2.alloc _) ⟨w2.heap.size, 0, none⟩ 1 1 [.string (B p)] rfl rfl (cell_one_new _ _ _) (one_str _) (by omega) (by omega) (by simp; omega) ?_; intro v3 w3 hown3 hgrow3 _; have hB3 := (hbw2.alloc hz2' (.cells #[.string (B p)] 9)).grown hgrow3 (by simp; omega) (fun j hj => (hown2.lt j hj).1))
      go_roundg (s.size - (q + pt))
      case measure => omega
      case rel =>
        refine ⟨q + pt, pre ++ [p], by go_num, hq2, by omega, by simp; omega, ?_, hB3, HN⟩
        rw [strs_snoc, List.length_append]; exact hown3

set_option maxHeartbeats 4000000 in
set_option maxRecDepth 100000 in
theorem refWhole18 (s : ByteArray) (w : World) (hs : s.size ≤ 40000) :
    Calls Tryz.prog 18 #[.string s] w (WholeSays s.data.toList w) := by
  obtain ⟨i0, hi, hz0, hz1, hz2⟩ := info_parts info9
  have hml : (1000000 : Nat) ≤ maxLen := by unfold maxLen; omega
  have SZ := Lib.hid (size_list s)
  have G0 := Lib.hid (GotF.start s.data.toList)
  have D0 := Lib.hid (refNext16 s ((0 : Nat) : Int) w hs)
  obtain ⟨x6, x7, x8, h0⟩ : ∃ x6 x7 x8, retF ((0 : Nat) : Int) (nextAt s.data.toList ((0 : Nat) : Int)) = .tuple #[x6, x7, x8] := by
    rcases nextAt s.data.toList ((0 : Nat) : Int) with _ | p <;> exact ⟨_, _, _, rfl⟩
  have H0 := Lib.hid h0
  rw [h0] at D0
  clear h0
  go_enter Tryz.func18, Tryz.ntmps18
  go_wp2_with fail
  go_at_call 16
  refine D0.out.mono ?_
  rintro e w1 ⟨rfl, hB1⟩
  clear D0
  go_wp2_with fail
  go_loopg [4, 5, 6, 7, 8] s.size (fun g s4 s5 s6 s7 s8 wr => ∃ (q : Nat) (pre : List (List UInt8)), s5 = .int .i64 q ∧ q ≤ s.size ∧ s.size - q ≤ g ∧ pre.length ≤ q ∧ wr.ownsRow w.heap.size 9 1 s4 pre.length (strs pre) ∧ Below w.heap.size w wr ∧ Hid (GotF s.data.toList q pre) ∧ Hid (retF (q : Int) (nextAt s.data.toList q) = .tuple #[s6, s7, s8]))
  case atStart => exact ⟨0, [], rfl, Nat.zero_le _, by omega, by simp, World.ownsRow_nil _ _ _ _, hB1, G0, H0⟩
  case round =>
    obtain ⟨q, pre, rfl, hq, hg, hpl, hown, hbw, HR, HX⟩ := hrel
    have hsz := hbw.size
    clear G0 H0 hB1
    rcases ht : nextAt s.data.toList q with _ | p
    · have hx := HX.out
      rw [ht] at hx
      have HD := Lib.hid (HR.out.done ht)
      have HK := Lib.hid HR.out.2.1
      simp only [retF] at hx
      simp at hx
      obtain ⟨rfl, rfl, rfl⟩ := hx
      clear ht HR HX
      go_wp2
      go_ret2
      exact WholeSays.made HD.out hbw rfl HK.out hown
    · have hx := HX.out
      rw [ht] at hx
      have HN := Lib.hid (HR.out.step ht)
      simp only [retF] at hx
      simp at hx
      obtain ⟨rfl, rfl, rfl⟩ := hx
      clear ht HR HX
      have hq2 : q + (frameL p).length ≤ s.size := by have := HN.out.2.2.1; rw [size_list] at this; exact this
      have hpl2 : pre.length + 1 ≤ q + (frameL p).length := by have := HN.out.few; simp only [List.length_append, List.length_singleton] at this; omega
      have hf := frameL_pos p
      have D := Lib.hid (fun W => refNext16 s ((q + (frameL p).length : Nat) : Int) W hs)
      obtain ⟨y6, y7, y8, hy⟩ : ∃ y6 y7 y8, retF ((q + (frameL p).length : Nat) : Int) (nextAt s.data.toList ((q + (frameL p).length : Nat) : Int)) = .tuple #[y6, y7, y8] := by
        rcases nextAt s.data.toList ((q + (frameL p).length : Nat) : Int) with _ | p <;> exact ⟨_, _, _, rfl⟩
      have HY := Lib.hid hy
      rw [hy] at D
      clear hy
      generalize (frameL p).length = pt at D HN hq2 hpl2 hf HY
      rw [show ((q + pt : Nat) : Int) = (q : Int) + (pt : Int) by omega] at D
      go_wp2_with (first
        | (at_builtin; refine wpList_append_own _ rfl (.tmp 17) (.tmp 19) 29 rfl w.heap.size 9 i0 (.string ⟨#[]⟩) 1 16 Tryz.underlying29 hi hz0 hz1 hz2 rfl (by decide) _ _ _ rfl (hown.alloc _) ⟨wr.heap.size, 0, none⟩ 1 1 [.string (B p)] rfl rfl (cell_one_new _ _ _) (one_str _) (by omega) (by omega) (by simp; omega) ?_; intro v3 w3 hown3 hgrow3 _; have hB3 := (hbw.alloc hsz (.cells #[.string (B p)] 9)).grown hgrow3 (by simp; omega) (fun j hj => (hown.lt j hj).1)))
      go_at_call 16
      refine (D.out _).mono ?_
      rintro e w4 ⟨rfl, hB4⟩
      have hown4 := own_below hown3 hB4
      have hB5 := hB3.trans (hB4.mono hB3.size)
      go_wp2_with fail
      go_roundg (s.size - (q + pt))
      case measure => omega
      case rel =>
        refine ⟨q + pt, pre ++ [p], by go_num, hq2, by omega, by simp; omega, ?_, hB5, HN, HY⟩
        rw [strs_snoc, List.length_append]; exact hown4
end Go.Proofs.YtljpclfeogiohaaGreatDoor.frm
