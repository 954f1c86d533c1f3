/- FramesLength, walked. -/
import Derived.Test.YtljpclfeogiohaaGreatDoorFrmLawLine
namespace Go.Proofs.YtljpclfeogiohaaGreatDoor.frm
open Go.RowKit Go.Lib

/-- What stands behind a frame's digits. -/
def behind (p : List UInt8) : List UInt8 := 58 :: (p ++ tailL p)
theorem frame_behind (p : List UInt8) : frameL p = decDigits p.length ++ behind p := by
  unfold frameL num.putT num.putN behind; simp
theorem behind_length (p : List UInt8) : (behind p).length = p.length + 10 := by
  unfold behind; rw [List.length_cons, List.length_append, tailL_length]
theorem off_text (m : Nat) (p : List UInt8) : decDigits m ++ behind p = num.putN m ++ (p ++ tailL p) := by
  unfold behind num.putN; simp

set_option maxHeartbeats 4000000 in
set_option maxRecDepth 100000 in
theorem law10 (p : ByteArray) (w : World) (hp : p.size ≤ maxLen) (hV : Vars w.heap.size w) :
    Calls Tryz.prog 10 #[.string p] w fun e w' => e = .returned (.bool true) ∧ Below w.heap.size w w' := by
  unfold maxLen at hp
  have DD := stands_at hV
  by_cases h1 : 15000 < p.size
  · clear hV
    go_enter Tryz.func10, Tryz.ntmps10
    go_wp2_with fail
    go_at_call 12
    refine (DD.out w (Below.refl _ _)).mono ?_
    rintro e w1 ⟨rfl, HB⟩
    go_wp2
    go_ret
    exact ⟨rfl, HB⟩
  have C1 := Lib.hid (frame13 p w (by omega) hV)
  have CI : Hid (∀ (z : Int) (m : Nat), z = (m : Int) → m ≤ 20000 → ∀ W, Below w.heap.size w W → Calls Tryz.prog 21 #[.int .i64 z] W fun e w' => e = .returned (.string (B (decDigits m))) ∧ Below W.heap.size W w') := Lib.hid (fun z m hz hm W hW => by
    subst hz; exact itoa21 m W (by unfold num.MX; omega) (hV.next hW))
  have HR := behind_length p.data.toList
  rw [size_list p] at HR
  have CN : Hid (∀ (m : Nat), m ≤ 20000 → nextL (decDigits m ++ behind p.data.toList) = none → ∀ W, Below w.heap.size w W → Calls Tryz.prog 15 #[.string (B (decDigits m) ++ B (behind p.data.toList)), .int .i64 0] W fun e w' => e = .returned (.tuple #[.string ⟨#[]⟩, .int .i64 0, .bool false]) ∧ Below W.heap.size W w') := Lib.hid (fun m hm hn W hW => by
    have hl := num.dec_len19 (n := m) (by unfold num.MX; omega)
    rw [B_append]
    have h := next15 (B (decDigits m ++ behind p.data.toList)) ((0 : Nat) : Int) W (by rw [B_size, List.length_append, HR]; omega) (hV.next hW)
    rw [list_B, nextAt_nat (Nat.zero_le _), List.drop_zero, hn] at h
    exact h)
  have H1 : Hid (1 ≤ p.size → nextL (decDigits (p.size - 1) ++ behind p.data.toList) = none) := Lib.hid (fun h => by
    have := shorter_none p.data.toList (fun e => by rw [← size_list p, e] at h; simp at h)
    rw [size_list p] at this
    rw [off_text]; exact this)
  have H2 : Hid (nextL (decDigits (p.size + 1) ++ behind p.data.toList) = none) := Lib.hid (by
    have := longer_none p.data.toList
    rw [size_list p] at this
    rw [off_text]; exact this)
  have hfb := frame_behind p.data.toList
  rw [size_list p] at hfb
  have hx := num.dec_len19 (n := p.size) (by unfold num.MX; omega)
  have SL : ∀ W, (Instr.slice 9 (.string (B (frameL p.data.toList))) (some (.int .i64 ((decDigits p.size).length : Int))) none none).run Tryz.prog W = .ok (.string (B (behind p.data.toList))) W := fun W => by
    have hle : (decDigits p.size).length ≤ (B (frameL p.data.toList)).size := by rw [B_size (frameL p.data.toList), hfb, List.length_append]; omega
    have h := run_slice_string_l (P := Tryz.prog) W 9 (B (frameL p.data.toList)) Tryz.underlying9 .i64 ((decDigits p.size).length : Int) (by omega) (by omega)
    rw [Int.toNat_natCast, num.extract_end (B (frameL p.data.toList)), list_B, hfb, List.drop_left] at h
    rw [hfb]
    exact h
  have hfl : (B (frameL p.data.toList)).size = (decDigits p.size).length + p.size + 10 := by rw [B_size (frameL p.data.toList), hfb, List.length_append, HR]; omega
  have CX := Lib.hid (fun W (hW : Below w.heap.size w W) => itoa21 p.size W (by unfold num.MX; omega) (hV.next hW))
  unfold retR at C1
  generalize B (frameL p.data.toList) = F at C1 SL hfl
  generalize decDigits p.size = x at CX SL hfl hx
  generalize behind p.data.toList = r at CN H1 H2 SL HR
  have hrl : r.length ≤ 20000 := by omega
  clear hV hfb HR
  go_enter Tryz.func10, Tryz.ntmps10
  go_wp2_with fail
  go_at_call 13
  refine C1.out.mono ?_
  rintro e w1 ⟨rfl, HB1⟩
  go_wp2_with fail
  go_at_call 21
  refine (CX.out w1 HB1).mono ?_
  rintro e w2 ⟨rfl, hB2⟩
  have HB2 := HB1.trans (hB2.mono HB1.size)
  clear C1 CX hB2
  go_wp2_with fail
  clear hfl
  go_loopg [6] 2 (fun g s6 wr => ∃ j : Nat, j ≤ 2 ∧ 2 - j ≤ g ∧ s6 = .int .i64 (2 * (j : Int) - 1) ∧ Below w.heap.size w wr)
  case atStart => exact ⟨0, by omega, by omega, rfl, HB2⟩
  case round =>
    obtain ⟨j, hj, hg, rfl, hbw⟩ := hrel
    have hz := hbw.size
    obtain rfl | rfl | rfl : j = 0 ∨ j = 1 ∨ j = 2 := by omega
    · by_cases h0 : p.size = 0
      · go_wp2
        go_roundg 1
        case measure => omega
        case rel => exact ⟨1, by omega, by omega, by go_num, hbw⟩
      · obtain ⟨m, hm⟩ : ∃ m, m = p.size - 1 := ⟨_, rfl⟩
        have hn := H1.out (by omega)
        rw [← hm] at hn
        have hml := num.dec_len19 (n := m) (by unfold num.MX; omega)
        have K1 : Hid (∀ z : Int, z = (m : Int) → ∀ W, More wr.heap.size wr W → Calls Tryz.prog 21 #[.int .i64 z] W fun e w' => e = .returned (.string (B (decDigits m))) ∧ More wr.heap.size wr w') := Lib.hid (fun z hz' W hW => (CI.out z m hz' (by omega) W (hbw.trans (Below.mono hW hz))).mono fun e w' h => And.intro h.1 (Below.trans hW (h.2.mono (Below.size hW))))
        have K2 : Hid (∀ W, More wr.heap.size wr W → Calls Tryz.prog 15 #[.string (B (decDigits m) ++ B r), .int .i64 0] W fun e w' => e = .returned (.tuple #[.string ⟨#[]⟩, .int .i64 0, .bool false]) ∧ More wr.heap.size wr w') := Lib.hid (fun W hW => (CN.out m (by omega) hn W (hbw.trans (Below.mono hW hz))).mono fun e w' h => And.intro h.1 (Below.trans hW (h.2.mono (Below.size hW))))
        have M1 : More wr.heap.size wr wr := Below.refl _ _
        have M1' : More wr.heap.size wr wr.drew := below_drew (Below.refl _ _)
        clear hn
        generalize decDigits m = y at K1 K2 hml
        have q0 : ¬ 9223372036854775807 < y.length + r.length := by omega
        go_wp2_with fail
        go_region_held3 (fun W => More wr.heap.size wr W) (assumption) (first
          | (go_at_call 21; refine (K1.out _ (by first | omega | (rw [IntKind.wrap_i64]; omega)) _ ?_).mono ?_; (assumption); rintro e w' ⟨rfl, hS⟩)
          | (go_at_call 15; refine (K2.out _ ?_).mono ?_; (assumption); rintro e w' ⟨rfl, hS⟩))
        rename_i S1
        have R1 : Below w.heap.size w _ := hbw.trans (Below.mono S1 hz)
        clear M1 M1' K1 K2 S1
        go_wp2
        go_roundg 1
        case measure => omega
        case rel => exact ⟨1, by omega, by omega, by go_num, R1⟩
    · have hml := num.dec_len19 (n := p.size + 1) (by unfold num.MX; omega)
      have K1 : Hid (∀ z : Int, z = ((p.size + 1 : Nat) : Int) → ∀ W, More wr.heap.size wr W → Calls Tryz.prog 21 #[.int .i64 z] W fun e w' => e = .returned (.string (B (decDigits (p.size + 1)))) ∧ More wr.heap.size wr w') := Lib.hid (fun z hz' W hW => (CI.out z (p.size + 1) hz' (by omega) W (hbw.trans (Below.mono hW hz))).mono fun e w' h => And.intro h.1 (Below.trans hW (h.2.mono (Below.size hW))))
      have K2 : Hid (∀ W, More wr.heap.size wr W → Calls Tryz.prog 15 #[.string (B (decDigits (p.size + 1)) ++ B r), .int .i64 0] W fun e w' => e = .returned (.tuple #[.string ⟨#[]⟩, .int .i64 0, .bool false]) ∧ More wr.heap.size wr w') := Lib.hid (fun W hW => (CN.out (p.size + 1) (by omega) H2.out W (hbw.trans (Below.mono hW hz))).mono fun e w' h => And.intro h.1 (Below.trans hW (h.2.mono (Below.size hW))))
      have M1 : More wr.heap.size wr wr := Below.refl _ _
      have M1' : More wr.heap.size wr wr.drew := below_drew (Below.refl _ _)
      generalize decDigits (p.size + 1) = y at K1 K2 hml
      have q0 : ¬ 9223372036854775807 < y.length + r.length := by omega
      go_wp2_with fail
      go_region_held3 (fun W => More wr.heap.size wr W) (assumption) (first
        | (go_at_call 21; refine (K1.out _ (by first | omega | (rw [IntKind.wrap_i64]; omega)) _ ?_).mono ?_; (assumption); rintro e w' ⟨rfl, hS⟩)
        | (go_at_call 15; refine (K2.out _ ?_).mono ?_; (assumption); rintro e w' ⟨rfl, hS⟩))
      rename_i S1
      have R1 : Below w.heap.size w _ := hbw.trans (Below.mono S1 hz)
      clear M1 M1' K1 K2 S1
      go_wp2
      go_roundg 0
      case measure => omega
      case rel => exact ⟨2, by omega, by omega, by go_num, R1⟩
    · go_wp2_with fail
      go_at_call 12
      refine (DD.out wr hbw).mono ?_
      rintro e w3 ⟨rfl, HB3⟩
      go_wp2
      go_ret
      exact ⟨rfl, HB3⟩
end Go.Proofs.YtljpclfeogiohaaGreatDoor.frm
