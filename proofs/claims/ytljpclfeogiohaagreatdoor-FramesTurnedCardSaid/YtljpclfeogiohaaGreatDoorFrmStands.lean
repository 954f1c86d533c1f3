/- The frames that the chapter names: stands tells true. -/
import Derived.Test.YtljpclfeogiohaaGreatDoorFrmWhole
namespace Go.Proofs.YtljpclfeogiohaaGreatDoor.frm
open Go.RowKit Go.Lib

abbrev oneL : List UInt8 := [49, 58, 97, 48, 48, 54, 49, 48, 48, 54, 49, 10]
abbrev noneL : List UInt8 := [48, 58, 48, 48, 48, 48, 48, 48, 48, 48, 10]
theorem frameOne : frameL [97] = oneL := by
  unfold frameL num.putT num.putN
  rw [num.dec_small (by decide)]
  decide
theorem frameNone : frameL [] = noneL := by
  unfold frameL num.putT num.putN
  rw [num.dec_small (by decide)]
  decide
theorem nextL_head {l q : List UInt8} (h : nextL l = some q) : ∃ c, l.head? = some c ∧ num.isDig c = true := by
  obtain ⟨_, r, rfl⟩ := nextL_iff.1 h
  have hp := num.dec_pos q.length
  obtain ⟨c, y, hy⟩ := List.exists_cons_of_ne_nil (l := decDigits q.length) (fun e => by rw [e] at hp; simp at hp)
  refine ⟨c, ?_, num.dec_dig q.length c (by rw [hy]; simp)⟩
  unfold frameL num.putT num.putN
  rw [hy]; simp
theorem one_next : nextAt oneL ((0 : Nat) : Int) = some [97] := by
  rw [nextAt_nat (Nat.zero_le _), List.drop_zero, ← frameOne]
  have := nextL_put (p := [97]) (by decide) []
  rwa [List.append_nil] at this
theorem one_inside : nextAt oneL ((1 : Nat) : Int) = none := by
  rw [nextAt_nat (by decide)]
  cases h : nextL (List.drop 1 oneL) with
  | none => rfl
  | some q =>
    obtain ⟨c, h1, h2⟩ := nextL_head h
    obtain rfl : c = 58 := (Option.some.inj h1).symm
    exact absurd h2 (by decide)
theorem short_none {l : List UInt8} (h : l.length < 11) : nextL l = none := by
  cases hq : nextL l with
  | none => rfl
  | some q => have := (nextL_iff.1 hq).2.length_le; have := frameL_pos q; omega
theorem both_whole : IsWhole (oneL ++ noneL ++ [48, 58, 48]) [[97], []] := by
  refine ⟨by simp [MF], [48, 58, 48], ?_, short_none (by decide)⟩
  rw [frs_cons, frs_cons, frs_nil, frameOne, frameNone]
  simp

set_option maxHeartbeats 2000000 in
set_option maxRecDepth 100000 in
theorem stands12 (w : World) (hV : Vars w.heap.size w) :
    Calls Tryz.prog 12 #[] w fun e w' => e = .returned (.bool true) ∧ Below w.heap.size w w' := by
  have HV : Hid (∀ W, Below w.heap.size w W → Vars W.heap.size W) := Lib.hid (fun W hW => hV.next hW)
  have C1 : Hid (∀ W, Below w.heap.size w W → Calls Tryz.prog 13 #[.string ⟨#[97]⟩] W fun e w' => e = .returned (.tuple #[.string ⟨#[49, 58, 97, 48, 48, 54, 49, 48, 48, 54, 49, 10]⟩, .int .i64 0]) ∧ Below W.heap.size W w') := Lib.hid (fun W hW => by
    have h := frame13 ⟨#[97]⟩ W (by decide) (HV.out W hW)
    have e : B (frameL (⟨#[97]⟩ : ByteArray).data.toList) = ⟨#[49, 58, 97, 48, 48, 54, 49, 48, 48, 54, 49, 10]⟩ := congrArg B frameOne
    rw [e] at h
    exact h)
  have C2 : Hid (∀ W, Below w.heap.size w W → Calls Tryz.prog 13 #[.string ⟨#[]⟩] W fun e w' => e = .returned (.tuple #[.string ⟨#[48, 58, 48, 48, 48, 48, 48, 48, 48, 48, 10]⟩, .int .i64 0]) ∧ Below W.heap.size W w') := Lib.hid (fun W hW => by
    have h := frame13 ⟨#[]⟩ W (by decide) (HV.out W hW)
    have e : B (frameL (⟨#[]⟩ : ByteArray).data.toList) = ⟨#[48, 58, 48, 48, 48, 48, 48, 48, 48, 48, 10]⟩ := congrArg B frameNone
    rw [e] at h
    exact h)
  have C3 : Hid (∀ W, Below w.heap.size w W → Calls Tryz.prog 15 #[.string ⟨#[49, 58, 97, 48, 48, 54, 49, 48, 48, 54, 49, 10]⟩, .int .i64 0] W fun e w' => e = .returned (.tuple #[.string ⟨#[97]⟩, .int .i64 12, .bool true]) ∧ Below W.heap.size W w') := Lib.hid (fun W hW => by
    have h := next15 ⟨#[49, 58, 97, 48, 48, 54, 49, 48, 48, 54, 49, 10]⟩ ((0 : Nat) : Int) W (by decide) (HV.out W hW)
    have e : retF ((0 : Nat) : Int) (nextAt (⟨#[49, 58, 97, 48, 48, 54, 49, 48, 48, 54, 49, 10]⟩ : ByteArray).data.toList ((0 : Nat) : Int)) = .tuple #[.string ⟨#[97]⟩, .int .i64 12, .bool true] := by
      show retF ((0 : Nat) : Int) (nextAt oneL ((0 : Nat) : Int)) = _
      rw [one_next]
      simp only [retF]
      rw [frameOne]
      rfl
    rw [e] at h
    exact h)
  have C4 : Hid (∀ W, Below w.heap.size w W → Calls Tryz.prog 15 #[.string ⟨#[49, 58, 97, 48, 48, 54, 49, 48, 48, 54, 49, 10]⟩, .int .i64 1] W fun e w' => e = .returned (.tuple #[.string ⟨#[]⟩, .int .i64 0, .bool false]) ∧ Below W.heap.size W w') := Lib.hid (fun W hW => by
    have h := next15 ⟨#[49, 58, 97, 48, 48, 54, 49, 48, 48, 54, 49, 10]⟩ ((1 : Nat) : Int) W (by decide) (HV.out W hW)
    have e : retF ((1 : Nat) : Int) (nextAt (⟨#[49, 58, 97, 48, 48, 54, 49, 48, 48, 54, 49, 10]⟩ : ByteArray).data.toList ((1 : Nat) : Int)) = .tuple #[.string ⟨#[]⟩, .int .i64 0, .bool false] := by
      show retF ((1 : Nat) : Int) (nextAt oneL ((1 : Nat) : Int)) = _
      rw [one_inside]
      rfl
    rw [e] at h
    exact h)
  have C5 : Hid (∀ W, Below w.heap.size w W → Calls Tryz.prog 17 #[.string (B (oneL ++ noneL ++ [48, 58, 48]))] W fun e w' => Below W.heap.size W w' ∧ ∃ A c, e = .returned (.tuple #[.slice A 2 c, .int .i64 23]) ∧ SRd w' w'.heap.size A [⟨#[97]⟩, ⟨#[]⟩]) := Lib.hid (fun W hW => by
    have h := whole17 (B (oneL ++ noneL ++ [48, 58, 48])) W (by decide) (HV.out W hW)
    rw [list_B] at h
    refine h.mono fun e w' ⟨hB, ps, A, n, c, k, h1, h2, h3, _, _, h4, h5⟩ => ⟨hB, A, c, ?_, ?_⟩
    · obtain rfl := h1.uniq both_whole
      have e2 : (frs [[97], []]).length = 23 := by rw [frs_cons, frs_cons, frs_nil, frameOne, frameNone]; rfl
      rw [h4, h2, h3, e2]; rfl
    · obtain rfl := h1.uniq both_whole
      exact h5)
  clear hV
  go_enter Tryz.func12, Tryz.ntmps12
  go_wp2_with fail
  go_at_call 13
  refine (C1.out w (Below.refl _ _)).mono ?_
  rintro e w1 ⟨rfl, HB1⟩
  go_wp2_with fail
  go_at_call 13
  refine (C2.out w1 HB1).mono ?_
  rintro e w2 ⟨rfl, hB2⟩
  have HB2 := HB1.trans (hB2.mono HB1.size)
  go_wp2_with fail
  go_at_call 15
  refine (C3.out w2 HB2).mono ?_
  rintro e w3 ⟨rfl, hB3⟩
  have HB3 := HB2.trans (hB3.mono HB2.size)
  go_wp2_with fail
  go_at_call 15
  refine (C4.out w3 HB3).mono ?_
  rintro e w4 ⟨rfl, hB4⟩
  have HB4 := HB3.trans (hB4.mono HB3.size)
  go_wp2_with fail
  go_at_call 17
  refine (C5.out w4 HB4).mono ?_
  rintro e w5 ⟨hB5, A, c, rfl, hR⟩
  have HB5 := HB4.trans (hB5.mono HB4.size)
  obtain ⟨b, o, rfl, _, hc⟩ := hR (by decide)
  have c0 : w5.cell? ⟨b, o, none⟩ = some (.string ⟨#[97]⟩) := hc 0 (by decide)
  have c1 : w5.cell? ⟨b, o + 1, none⟩ = some (.string ⟨#[]⟩) := hc 1 (by decide)
  clear hc hR HV C1 C2 C3 C4 C5 hB2 hB3 hB4 hB5
  go_wp2
  go_ret
  exact ⟨rfl, HB5⟩
end Go.Proofs.YtljpclfeogiohaaGreatDoor.frm
