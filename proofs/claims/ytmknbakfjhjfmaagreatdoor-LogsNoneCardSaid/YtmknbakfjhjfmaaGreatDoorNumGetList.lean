/- GetList, the program's and the document's. -/
import Derived.Test.YtmknbakfjhjfmaaGreatDoorNumPure
import Derived.Test.YtmknbakfjhjfmaaGreatDoorNumPutList
/-! The document's PutList. -/
namespace Go.Proofs.YtmknbakfjhjfmaaGreatDoor.num
open Go.RowKit Go.Lib

end Go.Proofs.YtmknbakfjhjfmaaGreatDoor.num

/-! GetList, the program's and the document's. -/
namespace Go.Proofs.YtmknbakfjhjfmaaGreatDoor.num
open Go.RowKit Go.Lib

theorem own_form {w : World} {base n : Nat} {v : Value} {xs : List Value} (h : w.ownsRow base 9 1 v n xs) : ∃ A c, v = .slice A n c := by
  rcases h.2 with ⟨rfl, h0⟩ | ⟨g, cap, _, rfl, _⟩
  · exact ⟨none, 0, by rw [h0]⟩
  · exact ⟨_, _, rfl⟩
theorem SRd.of_row {w : World} {base : Nat} {A : Option Addr} {m c : Nat} {zs more : List ByteArray} (hm : m = (zs ++ more).length) (h : w.ownsRow base 9 1 (.slice A m c) m ((zs ++ more).map Value.string)) : SRd w w.heap.size A zs := by
  intro hn
  have hm0 : 0 < m := by rw [hm, List.length_append]; omega
  obtain ⟨g, cap, hv, _, hlt⟩ := h.form hm0
  have hA : A = some ⟨g, 0, none⟩ := by injection hv
  subst hA
  refine ⟨g, 0, rfl, hlt, fun j hj => ?_⟩
  have := h.cells (g := g) rfl j (.string (zs.getD j ByteArray.empty)) (by
    rw [List.map_append, List.getElem?_append_left (by simpa using hj), List.getElem?_map, List.getElem?_eq_getElem hj]
    simp [List.getD, List.getElem?_eq_getElem hj])
  rwa [Go.WideShapes.add_plain] at this
def strs' (pre : List (List UInt8)) : List Value := (pre.map B).map Value.string
theorem strs'_snoc (pre : List (List UInt8)) (x : List UInt8) : strs' (pre ++ [x]) = strs' pre ++ [Value.string (B x)] := by simp [strs']

/-- The list that stands at a place of a text. -/
def atL (l : List UInt8) (a : Int) : Option (List (List UInt8)) := if 0 ≤ a ∧ a ≤ l.length then getL (l.drop a.toNat) else none
/-- What GetList tells: nothing; or the list, in memory of its own, and the place behind it. -/
def ListSays (l : List UInt8) (a : Int) (w : World) (e : Ending) (W' : World) : Prop :=
  Below w.heap.size w W' ∧
  match atL l a with
  | none => e = .returned (.tuple #[.slice none 0 0, .int .i64 0, .bool false])
  | some ts => ∃ A c, e = .returned (.tuple #[.slice A ts.length c, .int .i64 (a + (putL ts).length), .bool true]) ∧ W'.ownsRow w.heap.size 9 1 (.slice A ts.length c) ts.length (strs' ts) ∧ SRd W' W'.heap.size A (ts.map B)
theorem ListSays.no {l : List UInt8} {a : Int} {w : World} {W' : World} (h : atL l a = none) (hB : Below w.heap.size w W') : ListSays l a w (.returned (.tuple #[.slice none 0 0, .int .i64 0, .bool false])) W' := by
  refine ⟨hB, ?_⟩
  rw [h]
theorem ListSays.yes {l : List UInt8} {a : Int} {w : World} {W' : World} {ts : List (List UInt8)} {A : Option Addr} {c n : Nat} {k : Int} (h : atL l a = some ts) (hB : Below w.heap.size w W') (hn : n = ts.length) (hk : k = a + (putL ts).length)
    (ho : W'.ownsRow w.heap.size 9 1 (.slice A n c) n (strs' ts)) : ListSays l a w (.returned (.tuple #[.slice A n c, .int .i64 k, .bool true])) W' := by
  subst hn hk
  refine ⟨hB, ?_⟩
  rw [h]
  exact ⟨A, c, rfl, ho, SRd.of_row (zs := ts.map B) (more := []) (m := ts.length) (by simp) (by simpa [strs'] using ho)⟩

theorem atL_none_of {l : List UInt8} {a : Int} (h : atN l a = none) : atL l a = none := by
  unfold atN at h
  unfold atL
  split at h
  · rename_i hc
    rw [if_pos hc]
    unfold getL
    rw [h]
  · rename_i hc
    rw [if_neg hc]
theorem atT_nat {l : List UInt8} {q : Nat} (h : q ≤ l.length) : atT l q = getT (l.drop q) := by
  unfold atT; rw [if_pos (by omega), Int.toNat_natCast]
/-- How far a list has been got: pre stands ahead of the place q, what is left from there on. -/
def GotTo (l : List UInt8) (b cnt i q : Nat) (pre : List (List UInt8)) : Prop :=
  i = pre.length ∧ i ≤ cnt ∧ q ≤ l.length ∧ 2 * i ≤ q ∧ q = b + (putN cnt).length + (pre.flatMap putT).length ∧ atL l b = (getTs (cnt - i) (l.drop q)).map (pre ++ ·)
theorem GotTo.start {l : List UInt8} {b cnt : Nat} (h : atN l b = some cnt) : GotTo l b cnt 0 (b + (putN cnt).length) [] := by
  obtain ⟨c, hc, hle, hg, hn⟩ := atN_place h
  obtain rfl : b = c := by omega
  refine ⟨rfl, Nat.zero_le _, hle, by omega, by simp, ?_⟩
  unfold atL
  rw [if_pos (by omega), Int.toNat_natCast]
  unfold getL
  rw [hg]
  simp only [List.drop_drop, Nat.sub_zero, List.nil_append, Option.map_id_fun', id]
theorem GotTo.no {l : List UInt8} {b cnt i q : Nat} {pre : List (List UInt8)} (h : GotTo l b cnt i q pre) (hi : i < cnt) (ht : atT l q = none) : atL l b = none := by
  obtain ⟨h1, h2, h3, h4, h5, h6⟩ := h
  rw [atT_nat h3] at ht
  rw [h6, show cnt - i = (cnt - i - 1) + 1 by omega, getTs, ht]
  rfl
theorem GotTo.step {l : List UInt8} {b cnt i q : Nat} {pre : List (List UInt8)} {t : List UInt8} (h : GotTo l b cnt i q pre) (hi : i < cnt) (ht : atT l q = some t) : GotTo l b cnt (i + 1) (q + (putT t).length) (pre ++ [t]) := by
  obtain ⟨h1, h2, h3, h4, h5, h6⟩ := h
  rw [atT_nat h3] at ht
  have hp := (getT_iff.1 ht).2.length_le
  rw [List.length_drop] at hp
  have h2t : 2 ≤ (putT t).length := by unfold putT; rw [List.length_append]; have := putN_len2 t.length; omega
  refine ⟨by simp [h1], by omega, by omega, by omega, ?_, ?_⟩
  · rw [h5, List.flatMap_append]; simp; omega
  · rw [h6, show cnt - i = (cnt - (i + 1)) + 1 by omega, getTs, ht]
    simp only [List.drop_drop, Option.map_map]
    congr 1
    funext x
    simp
theorem GotTo.done {l : List UInt8} {b cnt q : Nat} {pre : List (List UInt8)} (h : GotTo l b cnt cnt q pre) : atL l b = some pre ∧ q = b + (putL pre).length := by
  obtain ⟨h1, h2, h3, h4, h5, h6⟩ := h
  refine ⟨by rw [h6, Nat.sub_self, getTs]; simp, ?_⟩
  rw [h5]
  unfold putL
  rw [List.length_append, ← h1]; omega

set_option maxHeartbeats 4000000 in
set_option maxRecDepth 100000 in
theorem getList24 (s : ByteArray) (a : Int) (w : World) (hs : s.size ≤ 100000) (hV : Vars w.heap.size w) :
    Calls Tryz.prog 101 #[.string s, .int .i64 a] w (ListSays s.data.toList a w) := by
  obtain ⟨i0, hi, hz0, hz1, hz2⟩ := info_parts info9
  have hml : (1000000 : Nat) ≤ maxLen := by unfold maxLen; omega
  have C := Lib.hid (get20 s a w (by omega) hV)
  rcases hn : atN s.data.toList a with _ | n
  · rw [hn] at C
    have HT := Lib.hid (atL_none_of hn)
    clear hn
    simp only [retN] at C
    go_enter Tryz.func101, Tryz.ntmps101
    go_wp2_with fail
    go_at_call 125
    refine C.out.mono ?_
    rintro e w1 ⟨rfl, hB⟩
    go_wp2
    go_ret3
    exact ListSays.no HT.out hB
  · obtain ⟨b, rfl, hle, -, hnm⟩ := atN_place hn
    have HG := Lib.hid (GotTo.start hn)
    rw [hn] at C
    rw [size_list] at hle
    have hn' : n ≤ 9223372036854775807 := hnm
    simp only [retN] at C
    have SZ := Lib.hid (size_list s)
    clear hn hnm
    generalize hm : (putN n).length = m at C HG hle
    have HM := Lib.hid hm
    clear hm
    go_enter Tryz.func101, Tryz.ntmps101
    go_wp2_with fail
    go_at_call 125
    refine C.out.mono ?_
    rintro e w1 ⟨rfl, hB1⟩
    clear C
    go_wp2_with fail
    go_loopg [4, 5, 21] n (fun g s4 s5 s21 wr => ∃ (i q : Nat) (pre : List (List UInt8)), s21 = .int .i64 i ∧ s5 = .int .i64 q ∧ i ≤ n ∧ n - i ≤ g ∧ q ≤ s.size ∧ pre.length ≤ q ∧ wr.ownsRow w.heap.size 9 1 s4 pre.length (strs' pre) ∧ Below w.heap.size w wr ∧ Hid (GotTo s.data.toList b n i q pre))
    case atStart => exact ⟨0, b + m, [], rfl, by go_num, Nat.zero_le _, by omega, hle, by simp, World.ownsRow_nil _ _ _ _, hB1, HG⟩
    case round =>
      obtain ⟨i, q, pre, rfl, rfl, hin, hg, hq, hpl, hown, hbw, HR⟩ := hrel
      have hsz := hbw.size
      clear hB1 HG
      by_cases hlt : i < n
      · have D := Lib.hid (getText22 s q wr (by omega) ((hV.below hbw).more hsz))
        rcases ht : atT s.data.toList q with _ | t
        · rw [ht] at D
          have HN := Lib.hid (HR.out.no hlt ht)
          clear ht
          simp only [retT] at D
          go_wp2_with fail
          go_at_call 123
          refine D.out.mono ?_
          rintro e w2 ⟨rfl, hB2⟩
          have hbw2 := hbw.trans (hB2.mono hsz)
          go_wp2
          go_ret3
          exact ListSays.no HN.out hbw2
        · rw [ht] at D
          have HN := Lib.hid (HR.out.step hlt ht)
          clear ht
          simp only [retT] at D
          have hq2 : q + (putT t).length ≤ s.size := by have := HN.out.2.2.1; rw [size_list] at this; exact this
          have hpl2 : pre.length + 1 ≤ q + (putT t).length := by have := HN.out.2.2.2.1; have := HN.out.1; simp only [List.length_append, List.length_singleton] at this; omega
          generalize (putT t).length = pt at D HN hq2 hpl2
          go_wp2_with fail
          go_at_call 123
          refine D.out.mono ?_
          rintro e w2 ⟨rfl, hB2⟩
          have hbw2 := hbw.trans (hB2.mono hsz)
          have hown2 := own_below hown hB2
          have hz2' := hbw2.size
          clear D hB2 hown hbw
          go_wp2_with (at_builtin; refine wpList_append_own _ rfl (.tmp 32) (.tmp 34) 22 rfl w.heap.size 9 i0 (.string ⟨#[]⟩) 1 16 Tryz.underlying22 hi hz0 hz1 hz2 rfl (by decide) _ _ _ rfl (hown2.alloc _) ⟨w2.heap.size, 0, none⟩ 1 1 [.string (B t)] rfl rfl (cell_one_new _ _ _) (one_str _) (by omega) (by omega) (by simp; omega) ?_; intro v3 w3 hown3 hgrow3 _; have hB3 := (hbw2.alloc hz2' (.cells #[.string (B t)] 9)).grown hgrow3 (by simp; omega) (fun j hj => (hown2.lt j hj).1))
          go_roundg (n - (i + 1))
          case measure => omega
          case rel =>
            refine ⟨i + 1, q + pt, pre ++ [t], by go_num, by go_num, by omega, by omega, hq2, by simp; omega, ?_, hB3, HN⟩
            rw [strs'_snoc, List.length_append]; exact hown3
      · obtain rfl : i = n := by omega
        have HD := Lib.hid HR.out.done
        have HL := Lib.hid HR.out.1
        obtain ⟨A, c, rfl⟩ := own_form hown
        clear HR
        go_wp2
        go_ret3
        exact ListSays.yes HD.out.1 hbw rfl (by rw [HD.out.2]; omega) hown

end Go.Proofs.YtmknbakfjhjfmaaGreatDoor.num
