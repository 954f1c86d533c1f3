/- PutList, the program's and the document's. -/
import Derived.Test.YtmknbakfjhjfmaaGreatDoorNumPure
import Derived.Test.YtmknbakfjhjfmaaGreatDoorNumTexts
import Derived.Test.YtmknbakfjhjfmaaGreatDoorTwin
namespace Go.Proofs.YtmknbakfjhjfmaaGreatDoor.num
open Go.RowKit Go.Shelf Go.Lib

theorem grown_of_below {w w' : World} (hB : Below w.heap.size w w') : w.grownBy w' none := ⟨hB.os, hB.tape, hB.output, hB.size, fun i hi _ => hB.block i hi⟩
theorem own_below {w w' : World} {base n e size : Nat} {v : Value} {xs : List Value} (h : w.ownsRow base e size v n xs) (hB : Below w.heap.size w w') : w'.ownsRow base e size v n xs := by
  have hl := h.lt
  refine ⟨h.1, ?_⟩
  rcases h.2 with h0 | ⟨g, cap, cur, rfl, hb, hg, h1⟩
  · exact .inl h0
  · exact .inr ⟨g, cap, cur, rfl, hb, (hB.block g (hl g rfl).2).trans hg, h1⟩
theorem builder_below {T e : TypeId} {n₀ b : Nat} {bs : List Value} {w w' : World} (h : Lib.IsBuilder T e n₀ b bs w) (hB : Below w.heap.size w w') : Lib.IsBuilder T e n₀ b bs w' := by
  rcases h with h | h
  · obtain ⟨h0, v, hb, ho, hne⟩ := h
    exact .inl ⟨h0, v, (hB.block _ (Lib.BuilderAt.lt ⟨h0, v, hb, ho, hne⟩)).trans hb, own_below ho hB, hne⟩
  · obtain ⟨h0, v, hb, ho, hne⟩ := h
    exact .inr ⟨h0, v, (hB.block _ (Lib.BuilderAt.lt ⟨h0, v, hb, ho, hne⟩)).trans hb, own_below ho hB, hne⟩

theorem tot_take_le (zs : List ByteArray) (k : Nat) : tot (zs.take k) ≤ tot zs := by
  unfold tot
  conv => rhs; rw [← List.take_append_drop k zs]
  rw [List.map_append, List.sum_append]; omega
theorem size_le_tot {zs : List ByteArray} {k : Nat} (h : k < zs.length) : (zs.getD k ByteArray.empty).size ≤ tot zs := by
  have := tot_take zs k h; have := tot_take_le zs (k + 1); omega
def bytesOf (zs : List ByteArray) : List (List UInt8) := zs.map (·.data.toList)
/-- What is put of the first k texts. -/
def putK (n : Nat) (zs : List ByteArray) (k : Nat) : List UInt8 := putN n ++ (bytesOf (zs.take k)).flatMap putT
theorem putK_zero (n : Nat) (zs : List ByteArray) : putK n zs 0 = putN n := by simp [putK, bytesOf]
theorem putK_succ (n : Nat) (zs : List ByteArray) (k : Nat) (h : k < zs.length) : putK n zs (k + 1) = putK n zs k ++ putT (zs.getD k ByteArray.empty).data.toList := by
  have e : zs.getD k ByteArray.empty = zs[k] := by simp [List.getD, List.getElem?_eq_getElem h]
  unfold putK bytesOf
  rw [e, List.take_succ_eq_append_getElem h, List.map_append, List.flatMap_append, List.append_assoc]
  simp
theorem putK_all (zs : List ByteArray) : putK zs.length zs zs.length = putL (bytesOf zs) := by
  unfold putK putL
  rw [List.take_length]
  simp [bytesOf]
theorem putT_len (t : List UInt8) (h : t.length ≤ MX) : (putT t).length ≤ t.length + 20 := by
  unfold putT; rw [List.length_append]; have := putN_len20 h; omega
theorem putK_len (n : Nat) (zs : List ByteArray) (k : Nat) (hn : n ≤ MX) (ht : tot zs ≤ 1000000) : (putK n zs k).length ≤ 20 + 20 * (zs.take k).length + tot (zs.take k) := by
  have key : ∀ (ys : List ByteArray), tot ys ≤ 1000000 → ((bytesOf ys).flatMap putT).length ≤ 20 * ys.length + tot ys := by
    intro ys
    induction ys with
    | nil => intro _; simp [bytesOf, tot]
    | cons y r ih =>
      intro hy
      have e1 : tot (y :: r) = y.size + tot r := by simp [tot]
      have e2 : (bytesOf (y :: r)).flatMap putT = putT y.data.toList ++ (bytesOf r).flatMap putT := by simp [bytesOf]
      rw [e1] at hy
      have := ih (by omega)
      have h3 := putT_len y.data.toList (by rw [size_list]; unfold MX; omega)
      rw [size_list] at h3
      rw [e1, e2, List.length_append, List.length_cons]
      omega
  unfold putK
  rw [List.length_append]
  have := putN_len20 hn
  have := key (zs.take k) (Nat.le_trans (tot_take_le zs k) ht)
  omega
theorem byteCells_str (l : List UInt8) (s : ByteArray) : Lib.byteCells l ++ Lib.strCells s = Lib.byteCells (l ++ s.data.toList) := by
  simp [Lib.byteCells, Lib.strCells]

set_option maxHeartbeats 2000000 in
set_option maxRecDepth 100000 in
theorem putList16 (A : Option Addr) (c n : Nat) (zs : List ByteArray) (w : World) (hn : n = zs.length) (hb1 : n ≤ 100000) (ht : tot zs ≤ 1000000) (h1 : SRd w w.heap.size A zs) (hV : Vars w.heap.size w) :
    Calls Tryz.prog 38 #[.slice A n c] w fun e w' => e = .returned (.string (B (putL (bytesOf zs)))) ∧ Below w.heap.size w w' := by
  have H1 := Lib.hid hn
  have HKL := Lib.hid (fun k => putK_len n zs k (by unfold MX; omega) ht)
  have HT := Lib.hid ht
  clear hn ht
  have hB0 : Below w.heap.size w (w.alloc (.cells #[.pointer none, .slice none 0 0] 103)) := (Below.refl _ w).alloc (Nat.le_refl _) _
  have hV0 : Vars (w.heap.size + 1) (w.alloc (.cells #[.pointer none, .slice none 0 0] 103)) := (hV.below hB0).more (by omega)
  have hb0 := Lib.fresh_isBuilder 103 5 w
  have C := Lib.hid (put12 n (w.alloc (.cells #[.pointer none, .slice none 0 0] 103)) (by unfold MX; omega) (by rw [World.size_alloc]; exact hV0))
  have hp20 := putN_len20 (n := n) (by unfold MX; omega)
  go_enter Tryz.func38, Tryz.ntmps38
  go_wp2_with fail
  go_at_call 62
  refine C.out.mono ?_
  rintro e w1 ⟨rfl, hB1⟩
  rw [World.size_alloc] at hB1
  have hb1' := builder_below hb0 (by rw [World.size_alloc]; exact hB1)
  have hBw1 := hB0.trans (hB1.mono (by omega))
  have hz1 := hBw1.size
  clear C hV0 hB1 hB0 hb0
  go_wp2_with fail
  go_at_call 63
  refine (writeString26 w.heap.size w.heap.size [] (B (putN n)) _ hb1' (by rw [B_size]; simp; omega) hz1).mono ?_
  rintro e w2 ⟨rfl, hb2, hB2⟩
  have hBw2 := hBw1.trans hB2
  have hb2' : Lib.IsBuilder 103 5 w.heap.size w.heap.size (Lib.byteCells (putK n zs 0)) w2 := .inr (by
    have := byteCells_str [] (B (putN n))
    rw [list_B, List.nil_append] at this
    rw [putK_zero, ← this]
    exact hb2)
  clear hb2 hB2 hBw1 hb1'
  go_wp2_with fail
  go_loopg [5, 12] n (fun g _ s12 wr => ∃ k : Nat, k ≤ n ∧ n - k ≤ g ∧ s12 = .int .i64 k ∧ Lib.IsBuilder 103 5 w.heap.size w.heap.size (Lib.byteCells (putK n zs k)) wr ∧ Below w.heap.size w wr)
  case atStart => exact ⟨0, Nat.zero_le _, by omega, rfl, hb2', hBw2⟩
  case round =>
    obtain ⟨k, hk, hg, rfl, hbk, hbw⟩ := hrel
    have hsz := hbw.size
    clear hb2' hBw2
    by_cases hlt : k < n
    · obtain ⟨p1, o1, rfl, _, hc1⟩ := (h1.below hbw) (by rw [← H1.out]; omega)
      have g1 : wr.cell? ⟨p1, o1 + k, none⟩ = some (.string (zs.getD k ByteArray.empty)) := hc1 k (by rw [← H1.out]; omega)
      have hkz : k < zs.length := by rw [← H1.out]; exact hlt
      have T := Lib.hid (putK_succ n zs k hkz)
      have hsz2 : (zs.getD k ByteArray.empty).size ≤ 1000000 := by have := size_le_tot hkz; have := HT.out; omega
      have hl : (Lib.byteCells (putK n zs k)).length ≤ 4000000 := by
        rw [Lib.byteCells_length]
        have := HKL.out k; have := tot_take_le zs k; have := HT.out; have := List.length_take_le k zs; omega
      clear hc1 hkz
      generalize hxk : zs.getD k ByteArray.empty = x at g1 T hsz2
      clear hxk
      have hVr := Lib.hid ((hV.below hbw).more hsz)
      have hq20 := putN_len20 (n := x.size) (by unfold MX; omega)
      go_wp2_with fail
      go_at_call 62
      refine (put12 x.size wr (by unfold MX; omega) hVr.out).mono ?_
      rintro e w3 ⟨rfl, hB3⟩
      have hbw3 := hbw.trans (hB3.mono hsz)
      have hsz3 := hbw3.size
      have hb3 := builder_below hbk hB3
      clear hB3
      go_wp2_with fail
      go_at_call 63
      refine (writeString26 w.heap.size w.heap.size _ (B (putN x.size)) _ hb3 (by rw [B_size]; omega) hsz3).mono ?_
      rintro e w4 ⟨rfl, hb4, hB4⟩
      have hbw4 := hbw3.trans hB4
      have hsz4 := hbw4.size
      have hl4 : (Lib.byteCells (putK n zs k) ++ Lib.strCells (B (putN x.size))).length ≤ 4000020 := by rw [List.length_append, Lib.strCells_length, B_size]; omega
      clear hB4 hb3 hbw3
      go_wp2_with fail
      go_at_call 63
      refine (writeString26 w.heap.size w.heap.size _ x _ (.inr hb4) (by omega) hsz4).mono ?_
      rintro e w5 ⟨rfl, hb5, hB5⟩
      have hbw5 := hbw4.trans hB5
      have hb6 : Hid (Lib.IsBuilder 103 5 w.heap.size w.heap.size (Lib.byteCells (putK n zs (k + 1))) w5) := Lib.hid (.inr (by
        rw [byteCells_str, byteCells_str, list_B, List.append_assoc] at hb5
        rw [T.out]
        unfold putT
        rw [size_list]
        exact hb5))
      clear hb4 hb5 hB5 hbw4 hbk
      go_wp2
      go_roundg (n - (k + 1))
      case measure => omega
      case rel => exact ⟨k + 1, by omega, by omega, by go_num, hb6.out, hbw5⟩
    · have hkn : k = n := by omega
      subst hkn
      have hbn : Hid (Lib.IsBuilder 103 5 w.heap.size w.heap.size (Lib.byteCells (putL (bytesOf zs))) wr) := Lib.hid (by rw [← putK_all, ← H1.out]; exact hbk)
      clear hbk h1
      go_wp2_with fail
      go_at_call 64
      refine (Tryz.Builder_String_any w.heap.size w.heap.size _ _ hbn.out hsz).mono ?_
      rintro e w2 ⟨rfl, hB2⟩
      go_wp2
      go_ret
      exact ⟨rfl, hbw.trans hB2⟩
end Go.Proofs.YtmknbakfjhjfmaaGreatDoor.num
