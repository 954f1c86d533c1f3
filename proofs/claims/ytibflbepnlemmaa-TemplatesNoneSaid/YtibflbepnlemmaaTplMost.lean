/- Templates: Most and Expand. -/
import Derived.Test.YtibflbepnlemmaaTplParse
import Derived.Test.YtibflbepnlemmaaBuilder
namespace Go.Proofs.Ytibflbepnlemmaa.tpl
open Go.RowKit Go.Lib
set_option linter.unusedVariables false
set_option linter.unusedSimpArgs false
set_option linter.unnecessarySimpa false
set_option linter.unusedSectionVars false

theorem take_snoc {α : Type} (l : List α) (k : Nat) (h : k < l.length) : l.take (k + 1) = l.take k ++ [l[k]] := List.take_succ_eq_append_getElem h
theorem pcs_at {w : World} {A : Option Addr} {ps : List Pc} (h : VRd w A (ps.map pcV)) (k : Nat) (hk : k < ps.length) : ∃ b off, A = some ⟨b, off, none⟩ ∧ w.cell? ⟨b, off + k, none⟩ = some (pcV ps[k]) := by
  obtain ⟨b, off, e, _, hc⟩ := h (by simpa using Nat.lt_of_le_of_lt (Nat.zero_le _) hk)
  exact ⟨b, off, e, hc k _ (by rw [List.getElem?_map, List.getElem?_eq_getElem hk]; rfl)⟩
theorem moP_take (ps : List Pc) (k : Nat) (h : k < ps.length) : moP (ps.take (k + 1)) = max (moP (ps.take k)) (moPc ps[k]) := by
  rw [take_snoc ps k h, moP_snoc]

/-- v's pieces, at any world that keeps what lay. -/
def Ps (w : World) (v : Value) (A : Option Addr) (c : Nat) (ps : List Pc) : Prop :=
  VRd w A (ps.map pcV) ∧ (∀ p ∈ ps, PcOk p) ∧ ∀ W, Below w.heap.size w W → Calls Try.prog 17 #[v] W fun e w' => e = .returned (.slice A ps.length c) ∧ w' = W
theorem Tp.ps {w : World} {v : Value} {ps : List Pc} (h : Tp w v ps) : ∃ A c, Ps w v A c ps := by
  obtain ⟨b, A, c, rfl, h1, h2, h3⟩ := h
  exact ⟨A, c, h2, h3, fun W hB => pieces_is W b A ps.length c (h1.keep hB h1.lt)⟩
theorem none_ps (w : World) : Ps w (.pointer none) none 0 [] := ⟨VRd.nil, fun p h => by simp at h, fun W _ => pieces_nil W⟩
theorem Ps.below {w w' : World} {v : Value} {A : Option Addr} {c : Nat} {ps : List Pc} (h : Ps w v A c ps) (hB : Below w.heap.size w w') : Ps w' v A c ps :=
  ⟨h.1.below hB, h.2.1, fun W hW => h.2.2 W (hB.trans (hW.mono hB.size))⟩

set_option maxHeartbeats 1000000 in
set_option maxRecDepth 100000 in
theorem most_p (v : Value) (A : Option Addr) (c n : Nat) (ps : List Pc) (w : World) (hn : ps.length = n) (hl : n ≤ 1000000) (h : Ps w v A c ps) :
    Calls Try.prog 11 #[v] w fun e w' => e = .returned (.int .i64 (moP ps : Nat)) ∧ w' = w := by
  have C := Lib.hid (h.2.2 w (Below.refl _ _))
  rw [hn] at C
  have HN := Lib.hid hn
  have H1 := Lib.hid h.1
  clear hn h
  go_enter Try.func11, Try.ntmps11
  go_wp2_with (go_at_call 17; refine C.out.mono ?_; rintro e w' ⟨rfl, hw⟩; rw [hw])
  go_loopg [3, 5, 9] n (fun g s3 _ s9 wr => ∃ (k : Nat) (r : Int), k ≤ n ∧ n - k ≤ g ∧ s9 = .int .i64 k ∧ wr = w ∧ s3 = .int .i64 r ∧ Hid (r = (moP (ps.take k) : Nat)))
  case atStart => exact ⟨0, 0, Nat.zero_le _, by omega, rfl, rfl, rfl, Lib.hid (by simp [moP])⟩
  case round =>
    obtain ⟨k, r, hk, hg, rfl, rfl, rfl, HR⟩ := hrel
    by_cases hlt : k < n
    · have hk2 : k < ps.length := by rw [HN.out]; exact hlt
      obtain ⟨b, off, rfl, hc⟩ := pcs_at H1.out k hk2
      have T := Lib.hid (moP_take ps k hk2)
      generalize ps[k] = p at hc T
      have CN := Lib.hid (number_is p wr)
      generalize pcV p = vp at hc CN
      generalize hq : moPc p = q at CN T
      clear hk2 hq
      go_wp2_with fail
      go_at_call 18
      refine CN.out.mono ?_
      rintro e w2 ⟨rfl, hw2⟩
      rw [hw2]
      go_wp2
      go_roundg (n - (k + 1))
      case measure => omega
      case rel => exact ⟨k + 1, _, by omega, by omega, by go_num, rfl, rfl, Lib.hid (by rw [T.out, HR.out]; omega)⟩
    · obtain rfl : k = n := by omega
      go_wp2
      go_ret
      refine ⟨?_, rfl⟩
      have := HR.out
      rw [← HN.out, List.take_length] at this
      rw [← this]
      rfl
theorem most_is (v : Value) (ps : List Pc) (w : World) (hl : ps.length ≤ 1000000) (h : Tp w v ps) :
    Calls Try.prog 11 #[v] w fun e w' => e = .returned (.int .i64 (moP ps : Nat)) ∧ w' = w := by
  obtain ⟨A, c, hp⟩ := h.ps
  exact most_p v A c _ ps w rfl hl hp
theorem most_nil (w : World) : Calls Try.prog 11 #[.pointer none] w fun e w' => e = .returned (.int .i64 0) ∧ w' = w :=
  most_p _ none 0 0 [] w rfl (by omega) (none_ps w)

/-! ## Expand -/
theorem isBuilder_keep {T e : TypeId} {n b : Nat} {bs : List Value} {w w' : World} (h : Lib.IsBuilder T e n b bs w) (hB : Below w.heap.size w w') : Lib.IsBuilder T e n b bs w' := by
  have key : ∀ p, Lib.BuilderAt T e n b p bs w → Lib.BuilderAt T e n b p bs w' := by
    rintro p ⟨h1, v, h2, h3, h4⟩
    exact ⟨h1, v, (hB.block b (Array.getElem?_eq_some_iff.1 h2).1).trans h2, own_keep h3 hB, h4⟩
  exact h.elim (fun x => .inl (key _ x)) (fun x => .inr (key _ x))
theorem byteCells_app (l s : List UInt8) : Lib.byteCells l ++ Lib.strCells (B s) = Lib.byteCells (l ++ s) := by
  simp [Lib.byteCells, Lib.strCells]
theorem exP_take (S : Nat → List UInt8) (ps : List Pc) (k : Nat) (h : k < ps.length) : exP S (ps.take (k + 1)) = exP S (ps.take k) ++ exPc S ps[k] := by
  rw [take_snoc ps k h, exP_snoc]
theorem exP_len (S : Nat → List UInt8) (ps : List Pc) (k : Nat) : (exP S (ps.take k)).length ≤ (exP S ps).length := by
  conv => rhs; rw [← List.take_append_drop k ps]
  unfold exP
  rw [List.map_append, List.flatten_append, List.length_append]
  omega

set_option maxHeartbeats 2000000 in
set_option maxRecDepth 100000 in
theorem expand_p (v : Value) (A : Option Addr) (c n : Nat) (ps : List Pc) (s : List UInt8) (f : Nat → Int) (w : World) (hn : ps.length = n) (hl : n ≤ 1000000) (hs : s.length ≤ 1000000) (hx : (exP (stf f s) ps).length ≤ 1000000000) (h : Ps w v A c ps) :
    Calls Try.prog 12 #[v, .string (B s), .agg (spA f)] w fun e w' => e = .returned (.string (B (exP (stf f s) ps))) ∧ Below w.heap.size w w' := by
  have HN := Lib.hid hn
  have HP := Lib.hid h
  have HS := Lib.hid hs
  have HXL := Lib.hid hx
  clear hn h hs hx
  go_enter Try.func12, Try.ntmps12
  go_wp2_with (refine wpList_boxSp rfl _ rfl f rfl ?_; intro w1 hs1 hp1 hb1; have CP := Lib.hid (HP.out.2.2 (w1.alloc (.cells #[.pointer none, .slice none 0 0] 52)) (hb1.alloc hb1.size _)); rw [HN.out] at CP)
  refine CP.out.mono ?_
  rintro e w2 ⟨rfl, hw2⟩
  subst hw2
  have hB := Lib.fresh_isBuilder 52 5 w1
  rw [hs1] at hB
  have HB0 := Lib.hid (And.intro hB (And.intro hp1 hb1))
  have HS1 := Lib.hid hs1
  clear hB hp1 hb1 CP
  go_wp2
  go_loopg [9, 13] n (fun g _ s13 wr => ∃ k : Nat, k ≤ n ∧ n - k ≤ g ∧ s13 = .int .i64 k ∧ Hid (Lib.IsBuilder 52 5 (w.heap.size + 1) (w.heap.size + 1) (Lib.byteCells (exP (stf f s) (ps.take k))) wr ∧ Below (w.heap.size + 1) w1 wr))
  case atStart => exact ⟨0, Nat.zero_le _, by omega, rfl, Lib.hid ⟨HB0.out.1, (Below.refl _ _).alloc (by rw [HS1.out]; exact Nat.le_refl _) _⟩⟩
  case round =>
    obtain ⟨k, hk, hg, rfl, HI⟩ := hrel
    have HSW : Hid (w.heap.size + 1 ≤ wr.heap.size) := Lib.hid (by have := HI.out.2.size; have := HS1.out; omega)
    have HW0 : Hid (Below w.heap.size w wr) := Lib.hid (HB0.out.2.2.trans (HI.out.2.mono (by omega)))
    by_cases hlt : k < n
    · have hk2 : k < ps.length := by rw [HN.out]; exact hlt
      obtain ⟨b, off, rfl, hc⟩ := pcs_at (HP.out.1.below HW0.out) k hk2
      have T := Lib.hid (exP_take (stf f s) ps k hk2)
      have hpo : PcOk ps[k] := HP.out.2.1 _ (List.getElem_mem hk2)
      have hlen := exP_len (stf f s) ps (k + 1)
      rw [T.out, List.length_append] at hlen
      have HL := Lib.hid hlen
      have hSp : Sp wr w.heap.size f := At.keep HB0.out.2.1 HI.out.2 (by omega)
      generalize ps[k] = p at hc T hpo HL
      have CE := Lib.hid (expanded_is p s f wr hpo HS.out)
      generalize hx : exPc (stf f s) p = x at CE T HL
      generalize pcV p = vp at hc CE
      clear hx hlen hk2 hpo
      go_wp2_with (refine wpList_loadSp rfl _ rfl _ rfl f hSp ?_)
      go_at_call 20
      refine CE.out.mono ?_
      rintro e w2 ⟨rfl, hb2⟩
      have HB2 := Lib.hid hb2
      have HBK := Lib.hid (isBuilder_keep HI.out.1 hb2)
      have HSZ : Hid (w.heap.size + 1 ≤ w2.heap.size) := Lib.hid (by have := hb2.size; have := HSW.out; omega)
      clear hb2 hSp CE
      go_wp2_with fail
      go_at_call 19
      refine (writeString26 (w.heap.size + 1) (w.heap.size + 1) _ (B x) _ HBK.out (by rw [Lib.byteCells_length, B_size]; have := HL.out; have := HXL.out; omega) HSZ.out).mono ?_
      rintro e w3 ⟨rfl, hb3, hB3⟩
      rw [byteCells_app, ← T.out] at hb3
      have HB3 := Lib.hid (And.intro hb3 hB3)
      clear hb3 hB3
      go_wp2
      go_roundg (n - (k + 1))
      case measure => omega
      case rel => exact ⟨k + 1, by omega, by omega, by go_num, Lib.hid ⟨.inr HB3.out.1, HI.out.2.trans ((HB2.out.mono HSW.out).trans HB3.out.2)⟩⟩
    · obtain rfl : k = n := by omega
      have HBN : Hid (Lib.IsBuilder 52 5 (w.heap.size + 1) (w.heap.size + 1) (Lib.byteCells (exP (stf f s) ps)) wr) := Lib.hid (by have := HI.out.1; rw [← HN.out, List.take_length] at this; exact this)
      go_wp2_with fail
      go_at_call 21
      refine (Try.Builder_String_any (w.heap.size + 1) (w.heap.size + 1) _ _ HBN.out HSW.out).mono ?_
      rintro e w2 ⟨rfl, hB2⟩
      have HB2 := Lib.hid hB2
      clear hB2
      go_wp2
      go_ret
      exact ⟨rfl, HW0.out.trans (HB2.out.mono (by omega))⟩
theorem expand_is (v : Value) (ps : List Pc) (s : List UInt8) (f : Nat → Int) (w : World) (hl : ps.length ≤ 1000000) (hs : s.length ≤ 1000000) (hx : (exP (stf f s) ps).length ≤ 1000000000) (h : Tp w v ps) :
    Calls Try.prog 12 #[v, .string (B s), .agg (spA f)] w fun e w' => e = .returned (.string (B (exP (stf f s) ps))) ∧ Below w.heap.size w w' := by
  obtain ⟨A, c, hp⟩ := h.ps
  exact expand_p v A c _ ps s f w rfl hl hs hx hp
theorem expand_nil (s : List UInt8) (f : Nat → Int) (w : World) (hs : s.length ≤ 1000000) :
    Calls Try.prog 12 #[.pointer none, .string (B s), .agg (spA f)] w fun e w' => e = .returned (.string ⟨#[]⟩) ∧ Below w.heap.size w w' :=
  expand_p _ none 0 0 [] s f w rfl (by omega) hs (by simp [exP]) (none_ps w)
end Go.Proofs.Ytibflbepnlemmaa.tpl
