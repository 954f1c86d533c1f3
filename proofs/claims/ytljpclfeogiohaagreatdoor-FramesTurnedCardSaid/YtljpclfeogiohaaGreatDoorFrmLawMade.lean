/- FramesMade and FramesListed, walked. -/
import Derived.Test.YtljpclfeogiohaaGreatDoorFrmStands
import Derived.Test.YtljpclfeogiohaaGreatDoorSame
namespace Go.Proofs.YtljpclfeogiohaaGreatDoor.frm
open Go.RowKit Go.Lib

theorem same_yes (A1 A2 : Option Addr) (c d n : Nat) (xs : List ByteArray) (w : World) (hn : n = xs.length) (hb : n ≤ 9223372036854775807) (h1 : SRd w w.heap.size A1 xs) (h2 : SRd w w.heap.size A2 xs) :
    Calls Tryz.prog 19 #[.slice A1 n c, .slice A2 n d] w fun e w' => e = .returned (.bool true) ∧ Below w.heap.size w w' :=
  (same12 A1 A2 c d w.heap.size n n xs xs w hn hn hb hb h1 h2).mono fun e w' ⟨he, q, hq⟩ => ⟨by rw [he]; simp, by rw [hq]; exact below_drewN (Below.refl _ _) q⟩
/-- What the closing call tells, in whatever world comes behind. -/
theorem stands_at {w : World} (hV : Vars w.heap.size w) : Hid (∀ W, Below w.heap.size w W → Calls Tryz.prog 12 #[] W fun e w' => e = .returned (.bool true) ∧ Below w.heap.size w w') :=
  Lib.hid (fun W hW => (stands12 W (hV.next hW)).mono fun _ _ h => ⟨h.1, hW.trans (h.2.mono hW.size)⟩)

set_option maxHeartbeats 2000000 in
set_option maxRecDepth 100000 in
theorem law3 (p s : ByteArray) (a : Int) (w : World) (hp : p.size ≤ maxLen) (hs : s.size ≤ maxLen) (hV : Vars w.heap.size w) :
    Calls Tryz.prog 3 #[.string p, .string s, .int .i64 a] w fun e w' => e = .returned (.bool true) ∧ Below w.heap.size w w' := by
  unfold maxLen at hp hs
  have DD := stands_at hV
  by_cases h1 : 15000 < p.size
  · clear hV
    go_enter Tryz.func3, Tryz.ntmps3
    go_wp2_with fail
    go_at_call 12
    refine (DD.out w (Below.refl _ _)).mono ?_
    rintro e w1 ⟨rfl, HB⟩
    go_wp2
    go_ret
    exact ⟨rfl, HB⟩
  by_cases h2 : 15000 < s.size
  · clear hV
    go_enter Tryz.func3, Tryz.ntmps3
    go_wp2_with fail
    go_at_call 12
    refine (DD.out w (Below.refl _ _)).mono ?_
    rintro e w1 ⟨rfl, HB⟩
    go_wp2
    go_ret
    exact ⟨rfl, HB⟩
  have C1 := Lib.hid (frame13 p w (by omega) hV)
  have C2 := Lib.hid (fun W => refFrame14 p W (by omega))
  have C3 := Lib.hid (fun W (hW : Below w.heap.size w W) => next15 s a W (by omega) (hV.next hW))
  have C4 := Lib.hid (fun W => refNext16 s a W (by omega))
  clear hV
  unfold retR at C1 C2
  generalize frameL p.data.toList = f at C1 C2
  have e1 : (f == f) = true := by simp
  rcases hn : nextAt s.data.toList a with _ | q
  · rw [hn] at C3 C4
    clear hn
    simp only [retF] at C3 C4
    go_enter Tryz.func3, Tryz.ntmps3
    go_wp2_with fail
    go_at_call 13
    refine C1.out.mono ?_
    rintro e w1 ⟨rfl, HB1⟩
    go_wp2_with fail
    go_at_call 14
    refine (C2.out w1).mono ?_
    rintro e w2 ⟨rfl, hB2⟩
    have HB2 := HB1.trans (hB2.mono HB1.size)
    go_wp2_with fail
    go_at_call 15
    refine (C3.out w2 HB2).mono ?_
    rintro e w3 ⟨rfl, hB3⟩
    have HB3 := HB2.trans (hB3.mono HB2.size)
    go_wp2_with fail
    go_at_call 16
    refine (C4.out w3).mono ?_
    rintro e w4 ⟨rfl, hB4⟩
    have HB4 := HB3.trans (hB4.mono HB3.size)
    go_wp2_with fail
    go_at_call 12
    refine (DD.out w4 HB4).mono ?_
    rintro e w5 ⟨rfl, HB5⟩
    go_wp2
    go_ret
    exact ⟨rfl, HB5⟩
  · rw [hn] at C3 C4
    clear hn
    simp only [retF] at C3 C4
    have e2 : (q == q) = true := by simp
    generalize (a + ((frameL q).length : Int)) = k at C3 C4
    go_enter Tryz.func3, Tryz.ntmps3
    go_wp2_with fail
    go_at_call 13
    refine C1.out.mono ?_
    rintro e w1 ⟨rfl, HB1⟩
    go_wp2_with fail
    go_at_call 14
    refine (C2.out w1).mono ?_
    rintro e w2 ⟨rfl, hB2⟩
    have HB2 := HB1.trans (hB2.mono HB1.size)
    go_wp2_with fail
    go_at_call 15
    refine (C3.out w2 HB2).mono ?_
    rintro e w3 ⟨rfl, hB3⟩
    have HB3 := HB2.trans (hB3.mono HB2.size)
    go_wp2_with fail
    go_at_call 16
    refine (C4.out w3).mono ?_
    rintro e w4 ⟨rfl, hB4⟩
    have HB4 := HB3.trans (hB4.mono HB3.size)
    go_wp2_with fail
    go_at_call 12
    refine (DD.out w4 HB4).mono ?_
    rintro e w5 ⟨rfl, HB5⟩
    go_wp2
    go_ret
    exact ⟨rfl, HB5⟩

end Go.Proofs.YtljpclfeogiohaaGreatDoor.frm
