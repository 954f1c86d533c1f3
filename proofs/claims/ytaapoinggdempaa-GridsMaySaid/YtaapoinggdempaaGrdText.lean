/- Grids: Text, of the program and of the document; a list of texts. -/
import Derived.Test.YtaapoinggdempaaGrdClone
import Derived.Test.YtaapoinggdempaaGrdSame
import Derived.Test.YtaapoinggdempaaSame
namespace Go.Proofs.Ytaapoinggdempaa.grd
open Go.RowKit Go.Lib
set_option linter.unusedVariables false
set_option linter.unusedSimpArgs false
set_option linter.unnecessarySimpa false
set_option linter.unusedSectionVars false

theorem made_strs (n : Nat) : (madeCells (Value.string ⟨#[]⟩).cells (n * 1)).toList = List.replicate n (Value.string ⟨#[]⟩) := by
  rw [Nat.mul_one, show (Value.string ⟨#[]⟩).cells = #[.string ⟨#[]⟩] from rfl, toList_madeCells_one]
/-- The first k rows are told. -/
structure Told (hs : Array Value) (ls : List (List UInt8)) (k n : Nat) : Prop where
  done : ∀ (i : Nat) l, i < k → ls[i]? = some l → hs[i]? = some (.string (B l))
  rest : ∀ i, k ≤ i → i < n → hs[i]? = some (.string ⟨#[]⟩)
theorem Told.step {hs : Array Value} {ls : List (List UInt8)} {k n : Nat} (h : Told hs ls k n) (hk : k < n) (l : List UInt8) (hl : ls[k]? = some l) : Told (hs.setIfInBounds k (.string (B l))) ls (k + 1) n := by
  have hlt : k < hs.size := (Array.getElem?_eq_some_iff.1 (h.rest k (Nat.le_refl _) hk)).1
  refine ⟨fun i l' hi hl' => ?_, fun i h1 h2 => ?_⟩
  · rw [Array.getElem?_setIfInBounds]
    by_cases e : k = i
    · subst e
      rw [hl, Option.some.injEq] at hl'
      rw [if_pos rfl, if_pos hlt, hl']
    · rw [if_neg e]; exact h.done i l' (by omega) hl'
  · rw [Array.getElem?_setIfInBounds, if_neg (by omega)]
    exact h.rest i (by omega) h2
theorem text_start {w W : World} {X : Array Value} {n : Nat} {ls : List (List UInt8)} (hown : W.ownsRow (w.heap.size + 1) 9 1 (.slice (some ⟨(w.alloc (.cells X 24)).heap.size, 0, none⟩) n n) n (List.replicate n (Value.string ⟨#[]⟩)))
    (hg : (w.alloc (.cells X 24)).grownBy W none) :
    At W w.heap.size 24 X ∧ Below w.heap.size w W ∧ w.heap.size + 1 < W.heap.size ∧ ∃ hs, At W (w.heap.size + 1) 9 hs ∧ Told hs ls 0 n := by
  have hs1 : (w.alloc (.cells X 24)).heap.size = w.heap.size + 1 := by simp
  have hgr := (Below.refl (w.heap.size + 1) _).grown hg (by omega) (fun k e => by cases e)
  obtain ⟨g, cs, e, _, h1, h2⟩ := own_block' hown
  injection e with e _
  rw [hs1] at e
  subst e
  exact ⟨At.keep (At.new w 24 X) hgr (by omega), ((Below.refl _ _).alloc (Nat.le_refl _) _).trans (hgr.mono (by omega)), h1.lt, cs, h1, ⟨fun i l hi => absurd hi (Nat.not_lt_zero _), fun i _ hi => h2 i _ (by rw [List.getElem?_replicate, if_pos hi])⟩⟩
theorem told_srd {w : World} {h : Nat} {hs : Array Value} {ls : List (List UInt8)} (hA : At w h 9 hs) (hT : Told hs ls ls.length ls.length) : SRd w w.heap.size (some ⟨h, 0, none⟩) (ls.map B) := fun hn => by
  refine ⟨h, 0, rfl, hA.lt, fun j hj => ?_⟩
  rw [List.length_map] at hj
  rw [Nat.zero_add, hA.cell j, hT.done j _ hj (List.getElem?_eq_getElem hj)]
  simp [List.getD, List.getElem?_eq_getElem hj]
set_option maxHeartbeats 4000000 in
set_option maxRecDepth 100000 in
theorem text_is (R C r k : Int) (A : Option Addr) (n c : Nat) (ls : List (List UInt8)) (w : World) (hf : few ls) (h1 : Gr w 0 w.heap.size A n c ls) :
    Calls Try.prog 21 #[.agg #[.int .i64 R, .int .i64 C, .slice A n c, .int .i64 r, .int .i64 k]] w fun e w' => ∃ h, e = .returned (.slice (some ⟨h, 0, none⟩) n n) ∧ SRd w' w'.heap.size (some ⟨h, 0, none⟩) (ls.map B) ∧ Below w.heap.size w w' := by
  obtain ⟨i0, hi0, hz0, hz1, hz2⟩ := info_parts info9
  have hml : (1000000 : Nat) ≤ maxLen := by unfold maxLen; omega
  have hn200 : n ≤ 200 := by have := hf.1; have := h1.len; omega
  have N1 := Lib.hid h1.len
  have H1 := Lib.hid h1
  clear h1 hf
  go_enter Try.func21, Try.ntmps21
  go_wp2_with (at_make; refine wpList_make_full _ rfl (.tmp 8) (.tmp 8) 37 rfl (w.heap.size + 1) 9 i0 (.string ⟨#[]⟩) 1 Try.underlying37 hi0 hz0 hz1 .i64 .i64 _ _ n rfl rfl rfl rfl (by rw [hz2]; omega) (by omega) (by simp) ?_; intro W2 hown2 hgrow2; rw [made_strs] at hown2; obtain ⟨hA1, hB2, hz, hT⟩ := text_start (ls := ls) hown2 hgrow2; have a2 : W2.cell? ⟨w.heap.size, 2, none⟩ = some (.slice A n c) := hA1.cell 2; have HT := Lib.hid hT; clear hown2 hgrow2 hT)
  clear a2 hA1
  go_loopg [13, 4, 5] n (fun g s13 s4 s5 wr => ∃ j : Nat, j ≤ n ∧ n - j ≤ g ∧ s13 = .int .i64 j ∧ Below w.heap.size w wr ∧ w.heap.size + 1 < wr.heap.size ∧ Hid (∃ hs, At wr (w.heap.size + 1) 9 hs ∧ Told hs ls j n))
  case atStart => exact ⟨0, Nat.zero_le _, by omega, rfl, hB2, hz, HT⟩
  case round =>
    obtain ⟨j, hj, hg, rfl, hB, hsz, HO⟩ := hrel
    clear hB2 HT hz
    by_cases hlt : j < n
    · obtain ⟨x, hx⟩ : ∃ x, ls[j]? = some x := ⟨_, List.getElem?_eq_getElem (by rw [← N1.out]; exact hlt)⟩
      obtain ⟨b1, o1, B1, d1, rfl, _, hb1, g1, _, _, v1⟩ := (H1.out.below hB (Nat.le_refl _)).at j x hx
      have cv := v1.conv (d := d1)
      obtain ⟨hs, hH, hT⟩ := HO.out
      have hc : wr.cell? ⟨w.heap.size + 1, j, none⟩ = some (.string ⟨#[]⟩) := (hH.cell j).trans (hT.rest j (Nat.le_refl _) hlt)
      have hfz := hH.frozen j
      have NT : Hid (∃ hs, At (wr.setCell ⟨w.heap.size + 1, j, none⟩ (.string (B x))) (w.heap.size + 1) 9 hs ∧ Told hs ls (j + 1) n) := Lib.hid ⟨_, hH.set j _, hT.step hlt x hx⟩
      have NB := Lib.hid (hB.setCell (p := ⟨w.heap.size + 1, j, none⟩) (by simp) (.string (B x)))
      have NS : w.heap.size + 1 < (wr.setCell ⟨w.heap.size + 1, j, none⟩ (.string (B x))).heap.size := by simpa [World.setCell] using hsz
      have NS' := Lib.hid NS
      clear hx v1 hH hT HO NS hB
      generalize x.length = m at g1 cv
      go_wp2
      go_roundg (n - (j + 1))
      case measure => omega
      case rel => exact ⟨j + 1, by omega, by omega, by go_num, NB.out, NS'.out, NT⟩
    · have hjn : j = n := by omega
      have FIN : Hid (SRd wr wr.heap.size (some ⟨w.heap.size + 1, 0, none⟩) (ls.map B)) := Lib.hid (by
        obtain ⟨hs, hH, hT⟩ := HO.out
        rw [hjn, N1.out] at hT
        exact told_srd hH hT)
      clear HO hjn
      go_wp2
      go_ret
      exact ⟨_, rfl, FIN.out, hB⟩
end Go.Proofs.Ytaapoinggdempaa.grd
