/- read and Next: what stands at a place of a text. -/
import Derived.Test.YtljpclfeogiohaaGreatDoorFrmRead
import Derived.Test.YtljpclfeogiohaaGreatDoorFrmAs2
namespace Go.Proofs.YtljpclfeogiohaaGreatDoor.frm
open Go.RowKit Go.Lib
open Go.Proofs.YtljpclfeogiohaaGreatDoor.num (putN putT putN_len2 putN_len20 MX getT getT_iff getT_drop atT retT getText22)
open Go.Proofs.YtljpclfeogiohaaGreatDoor.sum (sumN sumN_lt hexN)

/-- What read tells: an error of the program's own; or a payload, the place behind its frame, and none. -/
def ReadSays (l : List UInt8) (a : Int) (w : World) (e : Ending) (w' : World) : Prop :=
  Below w.heap.size w w' ∧
  match nextAt l a with
  | none => ∃ z, e = .returned (.tuple #[.string ⟨#[]⟩, .int .i64 0, .iface 50 (.string z)])
  | some p => e = .returned (.tuple #[.string (B p), .int .i64 (a + (frameL p).length), .nilIface])
theorem ReadSays.no {l : List UInt8} {a : Int} {w w' : World} {z : ByteArray} (h : nextAt l a = none) (hB : Below w.heap.size w w') : ReadSays l a w (.returned (.tuple #[.string ⟨#[]⟩, .int .i64 0, .iface 50 (.string z)])) w' := by
  refine ⟨hB, ?_⟩
  rw [h]
  exact ⟨z, rfl⟩
theorem ReadSays.yes {l : List UInt8} {a : Int} {w w' : World} {p : List UInt8} {k : Int} (h : nextAt l a = some p) (hB : Below w.heap.size w w') (hk : k = a + (frameL p).length) : ReadSays l a w (.returned (.tuple #[.string (B p), .int .i64 k, .nilIface])) w' := by
  subst hk
  refine ⟨hB, ?_⟩
  rw [h]

set_option maxHeartbeats 4000000 in
set_option maxRecDepth 100000 in
theorem read27 (s : ByteArray) (a : Int) (w : World) (hs : s.size ≤ 1000000) (hV : Vars w.heap.size w) :
    Calls Tryz.prog 27 #[.string s, .int .i64 a] w (ReadSays s.data.toList a w) := by
  have C := Lib.hid (getText22 s a w (by omega) hV.1)
  rcases ht : atT s.data.toList a with _ | t
  · rw [ht] at C
    have HN := Lib.hid (nextAt_none_of ht)
    clear ht hV
    simp only [retT] at C
    go_enter Tryz.func27, Tryz.ntmps27
    go_wp2_with fail
    go_at_call 38
    refine C.out.mono ?_
    rintro e w1 ⟨rfl, hB⟩
    go_wp2
    go_ret3
    exact ReadSays.no HN.out hB
  · obtain ⟨b, rfl, hle, hg⟩ := atT_place ht
    have HN := Lib.hid (nextAt_some_of hle hg)
    rw [ht] at C
    simp only [retT] at C
    have htl : t.length ≤ 1000000 := by rw [putT_length, size_list] at hle; omega
    have hfl : (frameL t).length = (putT t).length + 9 := by rw [frameL_length, putT_length]
    have hts : (B t).size = t.length := B_size t
    clear ht hg
    have SL := Lib.hid (end_slice s b (putT t).length (by rw [← size_list]; exact hle))
    have CS := Lib.hid (fun W => sum.sum11 (B t) W (by unfold maxLen; omega))
    rw [list_B] at CS
    have CH := Lib.hid (fun (W : World) (hW : Below w.heap.size w W) => sum.hex17 (sumN t) W (sumN_lt _) (hV.next hW).2.1)
    have hx := hexN_length (sumN t)
    have HL : Hid (∃ L, L = s.data.toList.drop (b + (putT t).length)) := Lib.hid ⟨_, rfl⟩
    have hLl : (s.data.toList.drop (b + (putT t).length)).length = s.size - (b + (putT t).length) := by rw [List.length_drop, size_list]
    have HT : Hid (tailL t = hexN (sumN t) ++ [10]) := Lib.hid rfl
    rw [size_list] at hle
    have HF := Lib.hid hfl
    clear hV
    by_cases hmf : t.length ≤ MF
    · generalize hxx : hexN (sumN t) = x at CH hx HT
      generalize sumN t = n at CS CH
      obtain ⟨L, hLe⟩ := HL.out
      rw [← hLe] at SL hLl HN
      clear HL hLe hxx hfl
      generalize (putT t).length = m at C SL hLl hle HF HN
      have hmf2 : t.length ≤ 4194304 := hmf
      have h9 := nine_iff (L := L) hx
      have hne : (x ++ [10]).length = 9 := by simp [hx]
      by_cases hp : Lib.hasPrefix L x = true
      · by_cases hq : Lib.hasPrefix (L.drop 8) [10] = true
        · have HN2 : Hid (nextAt s.data.toList b = some t) := Lib.hid (by rw [HN.out, if_pos ⟨hmf, by rw [HT.out]; exact h9.2 ⟨hp, hq⟩⟩])
          have hL9 : 9 ≤ L.length := by have := congrArg List.length (h9.2 ⟨hp, hq⟩); rw [List.length_take, hne] at this; omega
          have hd9 : ((L.drop 8).drop 1).length = s.size - (b + m) - 9 := by rw [List.length_drop, List.length_drop, hLl]; omega
          have hp2 : Lib.hasPrefix (B L).data.toList (B x).data.toList = true := by rw [list_B, list_B]; exact hp
          have CC := Lib.hid (fun W => cutYes (B L) (B x) W hp2)
          rw [list_B, B_size, hx] at CC
          have hq2 : Lib.hasPrefix (B (L.drop 8)).data.toList (⟨#[10]⟩ : ByteArray).data.toList = true := by rw [list_B]; exact hq
          have CN := Lib.hid (fun W => cutYes (B (L.drop 8)) ⟨#[10]⟩ W hq2)
          rw [list_B] at CN
          have e1 : (⟨#[10]⟩ : ByteArray).size = 1 := rfl
          rw [e1] at CN
          clear HN h9 hp hq hp2 hq2 HT
          generalize hL8 : L.drop 8 = L8 at CC CN hd9
          generalize hL1 : L8.drop 1 = L1 at CN hd9
          have hbs : (B L1).size = s.size - (b + m) - 9 := by rw [B_size]; exact hd9
          clear hL8 hL1 hd9
          go_enter Tryz.func27, Tryz.ntmps27
          go_wp2_with fail
          go_at_call 38
          refine C.out.mono ?_
          rintro e w1 ⟨rfl, hB1⟩
          have hz1 := hB1.size
          have K1 : Hid (∀ W, More w1.heap.size w1 W → Calls Tryz.prog 24 #[.string (B t)] W fun e w' => e = .returned (.int .u32 n) ∧ More w1.heap.size w1 w') := Lib.hid (fun W hW => (CS.out W).mono fun e w' h => ⟨h.1, h.2 ▸ hW⟩)
          have K2 : Hid (∀ W, More w1.heap.size w1 W → Calls Tryz.prog 23 #[.int .u32 n] W fun e w' => e = .returned (.string (B x)) ∧ More w1.heap.size w1 w') := Lib.hid (fun W hW => (CH.out W (hB1.trans (Below.mono hW hz1))).mono fun e w' h => And.intro h.1 (Below.trans hW (h.2.mono (Below.size hW))))
          have K3 : Hid (∀ W, More w1.heap.size w1 W → Calls Tryz.prog 39 #[.string (B L), .string (B x)] W fun e w' => e = .returned (.tuple #[.string (B L8), .bool true]) ∧ More w1.heap.size w1 w') := Lib.hid (fun W hW => (CC.out W).mono fun e w' h => ⟨h.1, h.2 ▸ hW⟩)
          have SL2 := SL.out
          have M1 : More w1.heap.size w1 w1 := Below.refl _ _
          have M1' : More w1.heap.size w1 w1.drew := below_drew (Below.refl _ _)
          clear C CS CH CC SL
          go_wp2_with fail
          go_region_held3 (fun W => More w1.heap.size w1 W) (assumption) (first
            | (go_at_call 24; refine (K1.out _ ?_).mono ?_; (assumption); rintro e w' ⟨rfl, hS⟩)
            | (go_at_call 23; refine (K2.out _ ?_).mono ?_; (assumption); rintro e w' ⟨rfl, hS⟩)
            | (go_at_call 39; refine (K3.out _ ?_).mono ?_; (assumption); rintro e w' ⟨rfl, hS⟩))
          rename_i S1
          have R1 : Below w.heap.size w _ := hB1.trans (Below.mono S1 hz1)
          clear M1 M1' K1 K2 K3 S1
          go_wp2_with fail
          go_at_call 39
          refine (CN.out _).mono ?_
          rintro e w' ⟨rfl, rfl⟩
          go_wp2
          go_ret3
          exact ReadSays.yes HN2.out R1 (by rw [HF.out]; omega)
        · have HN2 : Hid (nextAt s.data.toList b = none) := Lib.hid (by rw [HN.out, if_neg (fun h => hq (h9.1 (by rw [← HT.out]; exact h.2)).2)])
          have hp2 : Lib.hasPrefix (B L).data.toList (B x).data.toList = true := by rw [list_B, list_B]; exact hp
          have CC := Lib.hid (fun W => cutYes (B L) (B x) W hp2)
          rw [list_B, B_size, hx] at CC
          have hq2 : Lib.hasPrefix (B (L.drop 8)).data.toList (⟨#[10]⟩ : ByteArray).data.toList = false := by rw [list_B]; simpa using hq
          have CN := Lib.hid (fun W => cutNo (B (L.drop 8)) ⟨#[10]⟩ W hq2)
          clear HN h9 hp hq hp2 hq2 HT
          generalize hL8 : L.drop 8 = L8 at CC CN
          clear hL8
          go_enter Tryz.func27, Tryz.ntmps27
          go_wp2_with fail
          go_at_call 38
          refine C.out.mono ?_
          rintro e w1 ⟨rfl, hB1⟩
          have hz1 := hB1.size
          have K1 : Hid (∀ W, More w1.heap.size w1 W → Calls Tryz.prog 24 #[.string (B t)] W fun e w' => e = .returned (.int .u32 n) ∧ More w1.heap.size w1 w') := Lib.hid (fun W hW => (CS.out W).mono fun e w' h => ⟨h.1, h.2 ▸ hW⟩)
          have K2 : Hid (∀ W, More w1.heap.size w1 W → Calls Tryz.prog 23 #[.int .u32 n] W fun e w' => e = .returned (.string (B x)) ∧ More w1.heap.size w1 w') := Lib.hid (fun W hW => (CH.out W (hB1.trans (Below.mono hW hz1))).mono fun e w' h => And.intro h.1 (Below.trans hW (h.2.mono (Below.size hW))))
          have K3 : Hid (∀ W, More w1.heap.size w1 W → Calls Tryz.prog 39 #[.string (B L), .string (B x)] W fun e w' => e = .returned (.tuple #[.string (B L8), .bool true]) ∧ More w1.heap.size w1 w') := Lib.hid (fun W hW => (CC.out W).mono fun e w' h => ⟨h.1, h.2 ▸ hW⟩)
          have SL2 := SL.out
          have M1 : More w1.heap.size w1 w1 := Below.refl _ _
          have M1' : More w1.heap.size w1 w1.drew := below_drew (Below.refl _ _)
          clear C CS CH CC SL
          go_wp2_with fail
          go_region_held3 (fun W => More w1.heap.size w1 W) (assumption) (first
            | (go_at_call 24; refine (K1.out _ ?_).mono ?_; (assumption); rintro e w' ⟨rfl, hS⟩)
            | (go_at_call 23; refine (K2.out _ ?_).mono ?_; (assumption); rintro e w' ⟨rfl, hS⟩)
            | (go_at_call 39; refine (K3.out _ ?_).mono ?_; (assumption); rintro e w' ⟨rfl, hS⟩))
          rename_i S1
          have R1 : Below w.heap.size w _ := hB1.trans (Below.mono S1 hz1)
          clear M1 M1' K1 K2 K3 S1
          go_wp2_with fail
          go_at_call 39
          refine (CN.out _).mono ?_
          rintro e w' ⟨rfl, rfl⟩
          go_wp2
          go_ret3
          exact ReadSays.no HN2.out R1
      · have HN2 : Hid (nextAt s.data.toList b = none) := Lib.hid (by rw [HN.out, if_neg (fun h => hp (h9.1 (by rw [← HT.out]; exact h.2)).1)])
        have hp2 : Lib.hasPrefix (B L).data.toList (B x).data.toList = false := by rw [list_B, list_B]; simpa using hp
        have CC := Lib.hid (fun W => cutNo (B L) (B x) W hp2)
        clear HN h9 hp hp2 HT
        go_enter Tryz.func27, Tryz.ntmps27
        go_wp2_with fail
        go_at_call 38
        refine C.out.mono ?_
        rintro e w1 ⟨rfl, hB1⟩
        have hz1 := hB1.size
        have K1 : Hid (∀ W, More w1.heap.size w1 W → Calls Tryz.prog 24 #[.string (B t)] W fun e w' => e = .returned (.int .u32 n) ∧ More w1.heap.size w1 w') := Lib.hid (fun W hW => (CS.out W).mono fun e w' h => ⟨h.1, h.2 ▸ hW⟩)
        have K2 : Hid (∀ W, More w1.heap.size w1 W → Calls Tryz.prog 23 #[.int .u32 n] W fun e w' => e = .returned (.string (B x)) ∧ More w1.heap.size w1 w') := Lib.hid (fun W hW => (CH.out W (hB1.trans (Below.mono hW hz1))).mono fun e w' h => And.intro h.1 (Below.trans hW (h.2.mono (Below.size hW))))
        have K3 : Hid (∀ W, More w1.heap.size w1 W → Calls Tryz.prog 39 #[.string (B L), .string (B x)] W fun e w' => e = .returned (.tuple #[.string (B L), .bool false]) ∧ More w1.heap.size w1 w') := Lib.hid (fun W hW => (CC.out W).mono fun e w' h => ⟨h.1, h.2 ▸ hW⟩)
        have SL2 := SL.out
        have M1 : More w1.heap.size w1 w1 := Below.refl _ _
        have M1' : More w1.heap.size w1 w1.drew := below_drew (Below.refl _ _)
        clear C CS CH CC SL
        go_wp2_with fail
        go_region_held3 (fun W => More w1.heap.size w1 W) (assumption) (first
          | (go_at_call 24; refine (K1.out _ ?_).mono ?_; (assumption); rintro e w' ⟨rfl, hS⟩)
          | (go_at_call 23; refine (K2.out _ ?_).mono ?_; (assumption); rintro e w' ⟨rfl, hS⟩)
          | (go_at_call 39; refine (K3.out _ ?_).mono ?_; (assumption); rintro e w' ⟨rfl, hS⟩))
        rename_i S1
        have R1 : Below w.heap.size w _ := hB1.trans (Below.mono S1 hz1)
        clear M1 M1' K1 K2 K3 S1
        go_wp2
        go_ret3
        exact ReadSays.no HN2.out R1
    · exact absurd (Nat.le_trans htl (by decide)) hmf

/-- What Next tells. -/
def retF (a : Int) : Option (List UInt8) → Value
  | none => .tuple #[.string ⟨#[]⟩, .int .i64 0, .bool false]
  | some p => .tuple #[.string (B p), .int .i64 (a + (frameL p).length), .bool true]

set_option maxHeartbeats 4000000 in
set_option maxRecDepth 100000 in
theorem next15 (s : ByteArray) (a : Int) (w : World) (hs : s.size ≤ 1000000) (hV : Vars w.heap.size w) :
    Calls Tryz.prog 15 #[.string s, .int .i64 a] w fun e w' => e = .returned (retF a (nextAt s.data.toList a)) ∧ Below w.heap.size w w' := by
  have C := Lib.hid (read27 s a w hs hV)
  have HA := Lib.hid (fun (W : World) (hW : Below w.heap.size w W) z => as_lack z W (hV.next hW).2.2.1 (hV.next hW).2.2.2)
  have HN := Lib.hid (fun (W : World) v => as_nil v W)
  clear hV
  unfold ReadSays at C
  rcases hn : nextAt s.data.toList a with _ | p
  · rw [hn] at C
    clear hn
    go_enter Tryz.func15, Tryz.ntmps15
    go_wp2_with fail
    go_at_call 27
    refine C.out.mono ?_
    rintro e w1 ⟨hB, z, rfl⟩
    go_wp2_with fail
    go_at_call 28
    refine (HA.out w1 hB z).mono ?_
    rintro e w2 ⟨rfl, hB2⟩
    have hB3 := hB.trans (hB2.mono hB.size)
    go_wp2
    go_ret3
    exact ⟨rfl, hB3⟩
  · rw [hn] at C
    clear hn
    go_enter Tryz.func15, Tryz.ntmps15
    go_wp2_with fail
    go_at_call 27
    refine C.out.mono ?_
    rintro e w1 ⟨hB, rfl⟩
    have hB2 := hB.alloc hB.size (.cells #[.string ⟨#[]⟩] 50)
    go_wp2_with fail
    go_at_call 28
    refine (HN.out _ _).mono ?_
    rintro e w2 ⟨rfl, rfl⟩
    go_wp2
    go_ret3
    exact ⟨rfl, hB2⟩
end Go.Proofs.YtljpclfeogiohaaGreatDoor.frm
