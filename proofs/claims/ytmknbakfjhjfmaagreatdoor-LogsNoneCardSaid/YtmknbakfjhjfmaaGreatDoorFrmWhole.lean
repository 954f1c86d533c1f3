/- Whole, the program's and the document's. -/
import Derived.Test.YtmknbakfjhjfmaaGreatDoorFrmRead
import Derived.Test.YtmknbakfjhjfmaaGreatDoorFrmAs2
/-! read and Next: what stands at a place of a text. -/
namespace Go.Proofs.YtmknbakfjhjfmaaGreatDoor.frm
open Go.RowKit Go.Lib
open Go.Proofs.YtmknbakfjhjfmaaGreatDoor.num (putN putT putN_len2 putN_len20 MX getT getT_iff getT_drop atT retT getText22)
open Go.Proofs.YtmknbakfjhjfmaaGreatDoor.sum (sumN sumN_lt hexN)

/-- What read tells: an error of the program's own; or a payload, the place behind its frame, and none. -/
def ReadSays (l : List UInt8) (a : Int) (w : World) (e : Ending) (w' : World) : Prop :=
  Below w.heap.size w w' ∧
  match nextAt l a with
  | none => ∃ z, e = .returned (.tuple #[.string ⟨#[]⟩, .int .i64 0, .iface 163 (.string z)])
  | some p => e = .returned (.tuple #[.string (B p), .int .i64 (a + (frameL p).length), .nilIface])
theorem ReadSays.no {l : List UInt8} {a : Int} {w w' : World} {z : ByteArray} (h : nextAt l a = none) (hB : Below w.heap.size w w') : ReadSays l a w (.returned (.tuple #[.string ⟨#[]⟩, .int .i64 0, .iface 163 (.string z)])) w' := by
  refine ⟨hB, ?_⟩
  rw [h]
  exact ⟨z, rfl⟩
theorem ReadSays.yes {l : List UInt8} {a : Int} {w w' : World} {p : List UInt8} {k : Int} (h : nextAt l a = some p) (hB : Below w.heap.size w w') (hk : k = a + (frameL p).length) : ReadSays l a w (.returned (.tuple #[.string (B p), .int .i64 k, .nilIface])) w' := by
  subst hk
  refine ⟨hB, ?_⟩
  rw [h]

set_option maxHeartbeats 4000000 in
set_option maxRecDepth 100000 in
theorem read27 (s : ByteArray) (a : Int) (w : World) (hs : s.size ≤ 1000000) (hV : Vars w.heap.size w) :
    Calls Tryz.prog 99 #[.string s, .int .i64 a] w (ReadSays s.data.toList a w) := by
  have C := Lib.hid (getText22 s a w (by omega) hV.1)
  rcases ht : atT s.data.toList a with _ | t
  · rw [ht] at C
    have HN := Lib.hid (nextAt_none_of ht)
    clear ht hV
    simp only [retT] at C
    go_enter Tryz.func99, Tryz.ntmps99
    go_wp2_with fail
    go_at_call 123
    refine C.out.mono ?_
    rintro e w1 ⟨rfl, hB⟩
    go_wp2
    go_ret3
    exact ReadSays.no HN.out hB
  · obtain ⟨b, rfl, hle, hg⟩ := atT_place ht
    have HN := Lib.hid (nextAt_some_of hle hg)
    rw [ht] at C
    simp only [retT] at C
    have htl : t.length ≤ 1000000 := by rw [putT_length, size_list] at hle; omega
    have hfl : (frameL t).length = (putT t).length + 9 := by rw [frameL_length, putT_length]
    have hts : (B t).size = t.length := B_size t
    clear ht hg
    have SL := Lib.hid (end_slice s b (putT t).length (by rw [← size_list]; exact hle))
    have CS := Lib.hid (fun W => sum.sum11 (B t) W (by unfold maxLen; omega))
    rw [list_B] at CS
    have CH := Lib.hid (fun (W : World) (hW : Below w.heap.size w W) => sum.hex17 (sumN t) W (sumN_lt _) (hV.next hW).2.1)
    have hx := hexN_length (sumN t)
    have HL : Hid (∃ L, L = s.data.toList.drop (b + (putT t).length)) := Lib.hid ⟨_, rfl⟩
    have hLl : (s.data.toList.drop (b + (putT t).length)).length = s.size - (b + (putT t).length) := by rw [List.length_drop, size_list]
    have HT : Hid (tailL t = hexN (sumN t) ++ [10]) := Lib.hid rfl
    rw [size_list] at hle
    have HF := Lib.hid hfl
    clear hV
    by_cases hmf : t.length ≤ MF
    · generalize hxx : hexN (sumN t) = x at CH hx HT
      generalize sumN t = n at CS CH
      obtain ⟨L, hLe⟩ := HL.out
      rw [← hLe] at SL hLl HN
      clear HL hLe hxx hfl
      generalize (putT t).length = m at C SL hLl hle HF HN
      have hmf2 : t.length ≤ 4194304 := hmf
      have h9 := nine_iff (L := L) hx
      have hne : (x ++ [10]).length = 9 := by simp [hx]
      by_cases hp : Lib.hasPrefix L x = true
      · by_cases hq : Lib.hasPrefix (L.drop 8) [10] = true
        · have HN2 : Hid (nextAt s.data.toList b = some t) := Lib.hid (by rw [HN.out, if_pos ⟨hmf, by rw [HT.out]; exact h9.2 ⟨hp, hq⟩⟩])
          have hL9 : 9 ≤ L.length := by have := congrArg List.length (h9.2 ⟨hp, hq⟩); rw [List.length_take, hne] at this; omega
          have hd9 : ((L.drop 8).drop 1).length = s.size - (b + m) - 9 := by rw [List.length_drop, List.length_drop, hLl]; omega
          have hp2 : Lib.hasPrefix (B L).data.toList (B x).data.toList = true := by rw [list_B, list_B]; exact hp
          have CC := Lib.hid (fun W => cutYes (B L) (B x) W hp2)
          rw [list_B, B_size, hx] at CC
          have hq2 : Lib.hasPrefix (B (L.drop 8)).data.toList (⟨#[10]⟩ : ByteArray).data.toList = true := by rw [list_B]; exact hq
          have CN := Lib.hid (fun W => cutYes (B (L.drop 8)) ⟨#[10]⟩ W hq2)
          rw [list_B] at CN
          have e1 : (⟨#[10]⟩ : ByteArray).size = 1 := rfl
          rw [e1] at CN
          clear HN h9 hp hq hp2 hq2 HT
          generalize hL8 : L.drop 8 = L8 at CC CN hd9
          generalize hL1 : L8.drop 1 = L1 at CN hd9
          have hbs : (B L1).size = s.size - (b + m) - 9 := by rw [B_size]; exact hd9
          clear hL8 hL1 hd9
          go_enter Tryz.func99, Tryz.ntmps99
          go_wp2_with fail
          go_at_call 123
          refine C.out.mono ?_
          rintro e w1 ⟨rfl, hB1⟩
          have hz1 := hB1.size
          have K1 : Hid (∀ W, More w1.heap.size w1 W → Calls Tryz.prog 41 #[.string (B t)] W fun e w' => e = .returned (.int .u32 n) ∧ More w1.heap.size w1 w') := Lib.hid (fun W hW => (CS.out W).mono fun e w' h => ⟨h.1, h.2 ▸ hW⟩)
          have K2 : Hid (∀ W, More w1.heap.size w1 W → Calls Tryz.prog 40 #[.int .u32 n] W fun e w' => e = .returned (.string (B x)) ∧ More w1.heap.size w1 w') := Lib.hid (fun W hW => (CH.out W (hB1.trans (Below.mono hW hz1))).mono fun e w' h => And.intro h.1 (Below.trans hW (h.2.mono (Below.size hW))))
          have K3 : Hid (∀ W, More w1.heap.size w1 W → Calls Tryz.prog 100 #[.string (B L), .string (B x)] W fun e w' => e = .returned (.tuple #[.string (B L8), .bool true]) ∧ More w1.heap.size w1 w') := Lib.hid (fun W hW => (CC.out W).mono fun e w' h => ⟨h.1, h.2 ▸ hW⟩)
          have SL2 := SL.out
          have M1 : More w1.heap.size w1 w1 := Below.refl _ _
          have M1' : More w1.heap.size w1 w1.drew := below_drew (Below.refl _ _)
          clear C CS CH CC SL
          go_wp2_with fail
          go_region_held3 (fun W => More w1.heap.size w1 W) (assumption) (first
            | (go_at_call 41; refine (K1.out _ ?_).mono ?_; (assumption); rintro e w' ⟨rfl, hS⟩)
            | (go_at_call 40; refine (K2.out _ ?_).mono ?_; (assumption); rintro e w' ⟨rfl, hS⟩)
            | (go_at_call 100; refine (K3.out _ ?_).mono ?_; (assumption); rintro e w' ⟨rfl, hS⟩))
          rename_i S1
          have R1 : Below w.heap.size w _ := hB1.trans (Below.mono S1 hz1)
          clear M1 M1' K1 K2 K3 S1
          go_wp2_with fail
          go_at_call 100
          refine (CN.out _).mono ?_
          rintro e w' ⟨rfl, rfl⟩
          go_wp2
          go_ret3
          exact ReadSays.yes HN2.out R1 (by rw [HF.out]; omega)
        · have HN2 : Hid (nextAt s.data.toList b = none) := Lib.hid (by rw [HN.out, if_neg (fun h => hq (h9.1 (by rw [← HT.out]; exact h.2)).2)])
          have hp2 : Lib.hasPrefix (B L).data.toList (B x).data.toList = true := by rw [list_B, list_B]; exact hp
          have CC := Lib.hid (fun W => cutYes (B L) (B x) W hp2)
          rw [list_B, B_size, hx] at CC
          have hq2 : Lib.hasPrefix (B (L.drop 8)).data.toList (⟨#[10]⟩ : ByteArray).data.toList = false := by rw [list_B]; simpa using hq
          have CN := Lib.hid (fun W => cutNo (B (L.drop 8)) ⟨#[10]⟩ W hq2)
          clear HN h9 hp hq hp2 hq2 HT
          generalize hL8 : L.drop 8 = L8 at CC CN
          clear hL8
          go_enter Tryz.func99, Tryz.ntmps99
          go_wp2_with fail
          go_at_call 123
          refine C.out.mono ?_
          rintro e w1 ⟨rfl, hB1⟩
          have hz1 := hB1.size
          have K1 : Hid (∀ W, More w1.heap.size w1 W → Calls Tryz.prog 41 #[.string (B t)] W fun e w' => e = .returned (.int .u32 n) ∧ More w1.heap.size w1 w') := Lib.hid (fun W hW => (CS.out W).mono fun e w' h => ⟨h.1, h.2 ▸ hW⟩)
          have K2 : Hid (∀ W, More w1.heap.size w1 W → Calls Tryz.prog 40 #[.int .u32 n] W fun e w' => e = .returned (.string (B x)) ∧ More w1.heap.size w1 w') := Lib.hid (fun W hW => (CH.out W (hB1.trans (Below.mono hW hz1))).mono fun e w' h => And.intro h.1 (Below.trans hW (h.2.mono (Below.size hW))))
          have K3 : Hid (∀ W, More w1.heap.size w1 W → Calls Tryz.prog 100 #[.string (B L), .string (B x)] W fun e w' => e = .returned (.tuple #[.string (B L8), .bool true]) ∧ More w1.heap.size w1 w') := Lib.hid (fun W hW => (CC.out W).mono fun e w' h => ⟨h.1, h.2 ▸ hW⟩)
          have SL2 := SL.out
          have M1 : More w1.heap.size w1 w1 := Below.refl _ _
          have M1' : More w1.heap.size w1 w1.drew := below_drew (Below.refl _ _)
          clear C CS CH CC SL
          go_wp2_with fail
          go_region_held3 (fun W => More w1.heap.size w1 W) (assumption) (first
            | (go_at_call 41; refine (K1.out _ ?_).mono ?_; (assumption); rintro e w' ⟨rfl, hS⟩)
            | (go_at_call 40; refine (K2.out _ ?_).mono ?_; (assumption); rintro e w' ⟨rfl, hS⟩)
            | (go_at_call 100; refine (K3.out _ ?_).mono ?_; (assumption); rintro e w' ⟨rfl, hS⟩))
          rename_i S1
          have R1 : Below w.heap.size w _ := hB1.trans (Below.mono S1 hz1)
          clear M1 M1' K1 K2 K3 S1
          go_wp2_with fail
          go_at_call 100
          refine (CN.out _).mono ?_
          rintro e w' ⟨rfl, rfl⟩
          go_wp2
          go_ret3
          exact ReadSays.no HN2.out R1
      · have HN2 : Hid (nextAt s.data.toList b = none) := Lib.hid (by rw [HN.out, if_neg (fun h => hp (h9.1 (by rw [← HT.out]; exact h.2)).1)])
        have hp2 : Lib.hasPrefix (B L).data.toList (B x).data.toList = false := by rw [list_B, list_B]; simpa using hp
        have CC := Lib.hid (fun W => cutNo (B L) (B x) W hp2)
        clear HN h9 hp hp2 HT
        go_enter Tryz.func99, Tryz.ntmps99
        go_wp2_with fail
        go_at_call 123
        refine C.out.mono ?_
        rintro e w1 ⟨rfl, hB1⟩
        have hz1 := hB1.size
        have K1 : Hid (∀ W, More w1.heap.size w1 W → Calls Tryz.prog 41 #[.string (B t)] W fun e w' => e = .returned (.int .u32 n) ∧ More w1.heap.size w1 w') := Lib.hid (fun W hW => (CS.out W).mono fun e w' h => ⟨h.1, h.2 ▸ hW⟩)
        have K2 : Hid (∀ W, More w1.heap.size w1 W → Calls Tryz.prog 40 #[.int .u32 n] W fun e w' => e = .returned (.string (B x)) ∧ More w1.heap.size w1 w') := Lib.hid (fun W hW => (CH.out W (hB1.trans (Below.mono hW hz1))).mono fun e w' h => And.intro h.1 (Below.trans hW (h.2.mono (Below.size hW))))
        have K3 : Hid (∀ W, More w1.heap.size w1 W → Calls Tryz.prog 100 #[.string (B L), .string (B x)] W fun e w' => e = .returned (.tuple #[.string (B L), .bool false]) ∧ More w1.heap.size w1 w') := Lib.hid (fun W hW => (CC.out W).mono fun e w' h => ⟨h.1, h.2 ▸ hW⟩)
        have SL2 := SL.out
        have M1 : More w1.heap.size w1 w1 := Below.refl _ _
        have M1' : More w1.heap.size w1 w1.drew := below_drew (Below.refl _ _)
        clear C CS CH CC SL
        go_wp2_with fail
        go_region_held3 (fun W => More w1.heap.size w1 W) (assumption) (first
          | (go_at_call 41; refine (K1.out _ ?_).mono ?_; (assumption); rintro e w' ⟨rfl, hS⟩)
          | (go_at_call 40; refine (K2.out _ ?_).mono ?_; (assumption); rintro e w' ⟨rfl, hS⟩)
          | (go_at_call 100; refine (K3.out _ ?_).mono ?_; (assumption); rintro e w' ⟨rfl, hS⟩))
        rename_i S1
        have R1 : Below w.heap.size w _ := hB1.trans (Below.mono S1 hz1)
        clear M1 M1' K1 K2 K3 S1
        go_wp2
        go_ret3
        exact ReadSays.no HN2.out R1
    · exact absurd (Nat.le_trans htl (by decide)) hmf

/-- What Next tells. -/
def retF (a : Int) : Option (List UInt8) → Value
  | none => .tuple #[.string ⟨#[]⟩, .int .i64 0, .bool false]
  | some p => .tuple #[.string (B p), .int .i64 (a + (frameL p).length), .bool true]

set_option maxHeartbeats 4000000 in
set_option maxRecDepth 100000 in
theorem next15 (s : ByteArray) (a : Int) (w : World) (hs : s.size ≤ 1000000) (hV : Vars w.heap.size w) :
    Calls Tryz.prog 81 #[.string s, .int .i64 a] w fun e w' => e = .returned (retF a (nextAt s.data.toList a)) ∧ Below w.heap.size w w' := by
  have C := Lib.hid (read27 s a w hs hV)
  have HA := Lib.hid (fun (W : World) (hW : Below w.heap.size w W) z => as_lack z W (hV.next hW).2.2.1 (hV.next hW).2.2.2)
  have HN := Lib.hid (fun (W : World) v => as_nil v W)
  clear hV
  unfold ReadSays at C
  rcases hn : nextAt s.data.toList a with _ | p
  · rw [hn] at C
    clear hn
    go_enter Tryz.func81, Tryz.ntmps81
    go_wp2_with fail
    go_at_call 99
    refine C.out.mono ?_
    rintro e w1 ⟨hB, z, rfl⟩
    go_wp2_with fail
    go_at_call 52
    refine (HA.out w1 hB z).mono ?_
    rintro e w2 ⟨rfl, hB2⟩
    have hB3 := hB.trans (hB2.mono hB.size)
    go_wp2
    go_ret3
    exact ⟨rfl, hB3⟩
  · rw [hn] at C
    clear hn
    go_enter Tryz.func81, Tryz.ntmps81
    go_wp2_with fail
    go_at_call 99
    refine C.out.mono ?_
    rintro e w1 ⟨hB, rfl⟩
    have hB2 := hB.alloc hB.size (.cells #[.string ⟨#[]⟩] 163)
    go_wp2_with fail
    go_at_call 52
    refine (HN.out _ _).mono ?_
    rintro e w2 ⟨rfl, rfl⟩
    go_wp2
    go_ret3
    exact ⟨rfl, hB2⟩
end Go.Proofs.YtmknbakfjhjfmaaGreatDoor.frm

/-! Whole, the program's and the document's. -/
namespace Go.Proofs.YtmknbakfjhjfmaaGreatDoor.frm
open Go.RowKit Go.Lib

/-- What Whole tells: the payloads of all frames from the front on, in memory of its own, and where they end. -/
def WholeSays (l : List UInt8) (w : World) (e : Ending) (w' : World) : Prop :=
  Below w.heap.size w w' ∧ ∃ (ps : List (List UInt8)) (A : Option Addr) (n c k : Nat), IsWhole l ps ∧ n = ps.length ∧ k = (frs ps).length ∧ n ≤ c ∧ c ≤ maxLen ∧
    e = .returned (.tuple #[.slice A n c, .int .i64 k]) ∧ SRd w' w'.heap.size A (ps.map B)
theorem WholeSays.made {l : List UInt8} {w w' : World} {ps : List (List UInt8)} {v : Value} {n k : Nat} (h : IsWhole l ps) (hB : Below w.heap.size w w') (hn : n = ps.length) (hk : k = (frs ps).length)
    (ho : w'.ownsRow w.heap.size 9 1 v n (strs ps)) : WholeSays l w (.returned (.tuple #[v, .int .i64 k])) w' := by
  obtain ⟨A, c, rfl⟩ := own_form ho
  have hc : n ≤ c ∧ c ≤ maxLen := by
    rcases A with _ | a
    · rcases ho.2 with ⟨h1, h2⟩ | ⟨g, cap, _, h1, _⟩
      · have : c = 0 := by simp at h1; omega
        subst this; exact ⟨by omega, Nat.zero_le _⟩
      · cases h1
    · exact own_cap ho
  exact ⟨hB, ps, A, n, c, k, h, hn, hk, hc.1, hc.2, rfl, SRd.of_row (by rw [List.length_map]; exact hn) ho⟩

/-- How far one has come: pre stand ahead of the place q. -/
def GotF (l : List UInt8) (q : Nat) (pre : List (List UInt8)) : Prop := (∀ p ∈ pre, p.length ≤ MF) ∧ q = (frs pre).length ∧ q ≤ l.length ∧ l = frs pre ++ l.drop q
theorem GotF.start (l : List UInt8) : GotF l 0 [] := ⟨by simp, rfl, Nat.zero_le _, rfl⟩
theorem GotF.next {l : List UInt8} {q : Nat} {pre : List (List UInt8)} (h : GotF l q pre) : nextAt l q = nextL (l.drop q) := nextAt_nat h.2.2.1
theorem GotF.step {l : List UInt8} {q : Nat} {pre : List (List UInt8)} {p : List UInt8} (h : GotF l q pre) (hn : nextAt l q = some p) : GotF l (q + (frameL p).length) (pre ++ [p]) := by
  rw [h.next] at hn
  have hd := nextL_drop hn
  have hl := (nextL_iff.1 hn).2.length_le
  rw [List.length_drop] at hl
  have hp := frameL_pos p
  refine ⟨fun x hx => ?_, by rw [frs_snoc, List.length_append, h.2.1], by omega, ?_⟩
  · rcases List.mem_append.1 hx with hx | hx
    · exact h.1 x hx
    · rw [List.mem_singleton.1 hx]; exact (nextL_iff.1 hn).1
  · rw [frs_snoc, List.append_assoc, ← List.drop_drop, ← hd]
    exact h.2.2.2
theorem GotF.done {l : List UInt8} {q : Nat} {pre : List (List UInt8)} (h : GotF l q pre) (hn : nextAt l q = none) : IsWhole l pre := by
  rw [h.next] at hn
  exact ⟨h.1, l.drop q, h.2.2.2, hn⟩
theorem GotF.few {l : List UInt8} {q : Nat} {pre : List (List UInt8)} (h : GotF l q pre) : 11 * pre.length ≤ q := by rw [h.2.1]; exact frs_count pre

set_option maxHeartbeats 4000000 in
set_option maxRecDepth 100000 in
theorem whole17 (s : ByteArray) (w : World) (hs : s.size ≤ 1000000) (hV : Vars w.heap.size w) :
    Calls Tryz.prog 57 #[.string s] w (WholeSays s.data.toList w) := by
  obtain ⟨i0, hi, hz0, hz1, hz2⟩ := info_parts info9
  have hml : (1000000 : Nat) ≤ maxLen := by unfold maxLen; omega
  have SZ := Lib.hid (size_list s)
  have G0 := Lib.hid (GotF.start s.data.toList)
  go_enter Tryz.func57, Tryz.ntmps57
  go_wp2_with fail
  go_loopg [2, 3] s.size (fun g s2 s3 wr => ∃ (q : Nat) (pre : List (List UInt8)), s3 = .int .i64 q ∧ q ≤ s.size ∧ s.size - q ≤ g ∧ pre.length ≤ q ∧ wr.ownsRow w.heap.size 9 1 s2 pre.length (strs pre) ∧ Below w.heap.size w wr ∧ Hid (GotF s.data.toList q pre))
  case atStart => exact ⟨0, [], rfl, Nat.zero_le _, by omega, by simp, World.ownsRow_nil _ _ _ _, Below.refl _ _, G0⟩
  case round =>
    obtain ⟨q, pre, rfl, hq, hg, hpl, hown, hbw, HR⟩ := hrel
    have hsz := hbw.size
    have D := Lib.hid (next15 s q wr hs ((hV.below hbw).more hsz))
    clear G0
    rcases ht : nextAt s.data.toList q with _ | p
    · rw [ht] at D
      have HD := Lib.hid (HR.out.done ht)
      have HK := Lib.hid HR.out.2.1
      clear ht HR
      simp only [retF] at D
      go_wp2_with fail
      go_at_call 81
      refine D.out.mono ?_
      rintro e w2 ⟨rfl, hB2⟩
      have hbw2 := hbw.trans (hB2.mono hsz)
      have hown2 := own_below hown hB2
      go_wp2
      go_ret2
      exact WholeSays.made HD.out hbw2 rfl HK.out hown2
    · rw [ht] at D
      have HN := Lib.hid (HR.out.step ht)
      clear ht HR
      simp only [retF] at D
      have hq2 : q + (frameL p).length ≤ s.size := by have := HN.out.2.2.1; rw [size_list] at this; exact this
      have hpl2 : pre.length + 1 ≤ q + (frameL p).length := by have := HN.out.few; simp only [List.length_append, List.length_singleton] at this; omega
      have hf := frameL_pos p
      generalize (frameL p).length = pt at D HN hq2 hpl2 hf
      go_wp2_with fail
      go_at_call 81
      refine D.out.mono ?_
      rintro e w2 ⟨rfl, hB2⟩
      have hbw2 := hbw.trans (hB2.mono hsz)
      have hown2 := own_below hown hB2
      have hz2' := hbw2.size
      clear D hB2 hown hbw
      go_wp2_with (at_builtin; refine wpList_append_own _ rfl (.tmp 18) (.tmp 20) 22 rfl w.heap.size 9 i0 (.string ⟨#[]⟩) 1 16 Tryz.underlying22 hi hz0 hz1 hz2 rfl (by decide) _ _ _ rfl (hown2.alloc _) ⟨w2.heap.size, 0, none⟩ 1 1 [.string (B p)] rfl rfl (cell_one_new _ _ _) (one_str _) (by omega) (by omega) (by simp; omega) ?_; intro v3 w3 hown3 hgrow3 _; have hB3 := (hbw2.alloc hz2' (.cells #[.string (B p)] 9)).grown hgrow3 (by simp; omega) (fun j hj => (hown2.lt j hj).1))
      go_roundg (s.size - (q + pt))
      case measure => omega
      case rel =>
        refine ⟨q + pt, pre ++ [p], by go_num, hq2, by omega, by simp; omega, ?_, hB3, HN⟩
        rw [strs_snoc, List.length_append]; exact hown3

end Go.Proofs.YtmknbakfjhjfmaaGreatDoor.frm
