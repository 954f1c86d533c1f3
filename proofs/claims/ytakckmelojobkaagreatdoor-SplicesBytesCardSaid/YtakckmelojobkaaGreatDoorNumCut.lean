/- strings.Index and strings.Cut at a colon. -/
import Derived.Test.YtakckmelojobkaaGreatDoorNumPure
import Derived.Test.YtakckmelojobkaaGreatDoorWords
import Derived.Test.YtakckmelojobkaaGreatDoorShelf
import Derived.Lib.Strings
import Derived.Lib.Slices
import Derived.Lib.Walk
import Derived.Lib.Bytealg
import Derived.Lib.IndexLaws
import Derived.Lib.IndexBytes
namespace Go.Proofs.YtakckmelojobkaaGreatDoor.num
open Go.RowKit Go.Lib

theorem index49 (s : ByteArray) (c : UInt8) (w : World) :
    Calls Tryz.prog 65 #[.string s, .string ⟨#[c]⟩] w fun e w' => e = .returned (.int .i64 (Lib.indexByte s.data.toList c)) ∧ w' = w := Tryz.stringslite_Index_one s c w

theorem extract_B (s : ByteArray) (a b : Nat) : s.extract a b = B ((s.data.toList.drop a).take (b - a)) := by rw [← Lib.extract_data, B_list]
theorem extract_end (s : ByteArray) (a : Nat) : s.extract a s.size = B (s.data.toList.drop a) := by rw [← Lib.extract_to_end, B_list]
theorem index_cases (l : List UInt8) (c : UInt8) : Lib.indexByte l c = -1 ∨ ∃ o : Nat, o < l.length ∧ Lib.indexByte l c = o := by
  have h := Lib.indexByte_ge l c
  by_cases h1 : Lib.indexByte l c = -1
  · exact .inl h1
  · right
    obtain ⟨o, ho⟩ : ∃ o : Nat, Lib.indexByte l c = o := ⟨(Lib.indexByte l c).toNat, by omega⟩
    refine ⟨o, ?_, ho⟩
    have := (Lib.indexByte_some ho).1
    exact (List.getElem?_eq_some_iff.1 this).1

set_option maxHeartbeats 1000000 in
set_option maxRecDepth 100000 in
theorem cut40 (s : ByteArray) (w : World) (hs : s.size ≤ 9223372036854775806) :
    Calls Tryz.prog 60 #[.string s, .string ⟨#[58]⟩] w fun e w' => e = .returned (.tuple #[.string (B (cut58 s.data.toList).1), .string (B (cut58 s.data.toList).2.1), .bool (cut58 s.data.toList).2.2]) ∧ ∃ q, w' = w.drewN q := by
  have e0 : s.data.toList.length = s.size := by rw [Array.length_toList]; rfl
  rcases index_cases s.data.toList 58 with h | ⟨o, ho, h⟩
  · have hn : (58 : UInt8) ∉ s.data.toList := fun hm => by
      obtain ⟨k, hk⟩ := List.getElem?_of_mem hm
      exact Lib.indexByte_none h k hk
    have HC := Lib.hid (cut58_none _ hn)
    clear hn e0
    go_enter Tryz.func60, Tryz.ntmps60
    go_wp2_with (go_at_call 65; refine (index49 _ _ _).mono ?_; rintro e w' ⟨rfl, rfl⟩; rw [h])
    go_ret3
    rw [HC.out]
    exact ⟨by rw [B_list]; rfl, 0, rfl⟩
  · have hh := Lib.indexByte_some h
    have HC := Lib.hid (cut58_some _ _ hh.1 hh.2)
    have ho' : o < s.size := by omega
    have E := Lib.hid e0
    clear hh e0 ho
    go_enter Tryz.func60, Tryz.ntmps60
    go_wp2_with (go_at_call 65; refine (index49 _ _ _).mono ?_; rintro e w' ⟨rfl, rfl⟩; rw [h])
    go_region
    go_wp2
    go_ret3
    rw [HC.out]
    refine ⟨?_, 1, rfl⟩
    show Ending.returned (.tuple #[.string (s.extract 0 o), .string (s.extract (o + 1) s.size), .bool true]) = _
    rw [extract_B s 0 o, extract_end s (o + 1)]
    simp

set_option maxHeartbeats 1000000 in
theorem cut34 (s : ByteArray) (w : World) (hs : s.size ≤ 9223372036854775806) :
    Calls Tryz.prog 50 #[.string s, .string ⟨#[58]⟩] w fun e w' => e = .returned (.tuple #[.string (B (cut58 s.data.toList).1), .string (B (cut58 s.data.toList).2.1), .bool (cut58 s.data.toList).2.2]) ∧ ∃ q, w' = w.drewN q := by
  go_enter Tryz.func50, Tryz.ntmps50
  go_wp2_with (go_at_call 60; refine (cut40 _ _ hs).mono ?_; rintro e w' ⟨rfl, q, rfl⟩)
  go_ret3
  exact ⟨rfl, q, rfl⟩
end Go.Proofs.YtakckmelojobkaaGreatDoor.num
