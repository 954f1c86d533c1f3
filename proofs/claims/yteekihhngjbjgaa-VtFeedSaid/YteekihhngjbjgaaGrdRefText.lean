/- Grids: Text, of the document; how many cells. -/
import Derived.Test.YteekihhngjbjgaaGrdText
import Derived.Test.YteekihhngjbjgaaGrdRefClone
namespace Go.Proofs.Yteekihhngjbjgaa.grd
open Go.RowKit Go.Lib
set_option linter.unusedVariables false
set_option linter.unusedSimpArgs false
set_option linter.unnecessarySimpa false
set_option linter.unusedSectionVars false

theorem take_map_snoc (ls : List (List UInt8)) (k : Nat) (x : List UInt8) (h : ls[k]? = some x) : ((ls.take (k + 1)).map B).map Value.string = ((ls.take k).map B).map Value.string ++ [Value.string (B x)] := by
  rw [take_snoc h, List.map_append, List.map_append]; rfl
set_option maxHeartbeats 4000000 in
set_option maxRecDepth 100000 in
theorem refTextN_is (R C r k : Int) (A : Option Addr) (n c : Nat) (ls : List (List UInt8)) (w : World) (hf : few ls) (h1 : Gr w 0 w.heap.size A n c ls) :
    Calls Try.prog 41 #[.agg #[.int .i64 R, .int .i64 C, .slice A n c, .int .i64 r, .int .i64 k]] w fun e w' => ∃ A' c', e = .returned (.slice A' n c') ∧ SRd w' w'.heap.size A' (ls.map B) ∧ Below w.heap.size w w' ∧ ∀ a, A' = some a → w.heap.size < a.block := by
  obtain ⟨i0, hi0, hz0, hz1, hz2⟩ := info_parts info9
  have hml : (1000000 : Nat) ≤ maxLen := by unfold maxLen; omega
  have hn200 : n ≤ 200 := by have := hf.1; have := h1.len; omega
  have N1 := Lib.hid h1.len
  have H1 := Lib.hid h1
  clear h1 hf
  go_enter Try.func41, Try.ntmps41
  go_wp2
  have hA1 := At.new w 34 #[.int .i64 R, .int .i64 C, .slice A n c, .int .i64 r, .int .i64 k]
  have hB0 : Below w.heap.size w (w.alloc (.cells #[.int .i64 R, .int .i64 C, .slice A n c, .int .i64 r, .int .i64 k] 34)) := (Below.refl _ _).alloc (Nat.le_refl _) _
  generalize w.alloc (.cells #[.int .i64 R, .int .i64 C, .slice A n c, .int .i64 r, .int .i64 k] 34) = W0 at hA1 hB0 ⊢
  go_loopg [3, 4] n (fun g s3 s4 wr => ∃ j : Nat, j ≤ n ∧ n - j ≤ g ∧ s4 = .int .i64 j ∧ Below w.heap.size w wr ∧ At wr w.heap.size 34 #[.int .i64 R, .int .i64 C, .slice A n c, .int .i64 r, .int .i64 k] ∧ Hid (wr.ownsRow (w.heap.size + 1) 9 1 s3 j (((ls.take j).map B).map Value.string)))
  case atStart => exact ⟨0, Nat.zero_le _, by omega, rfl, hB0, hA1, Lib.hid (World.ownsRow_nil _ _ _ _)⟩
  case round =>
    obtain ⟨j, hj, hg, rfl, hB, hA, HO⟩ := hrel
    clear hB0 hA1
    have a2 : wr.cell? ⟨w.heap.size, 2, none⟩ = some (.slice A n c) := hA.cell 2
    by_cases hlt : j < n
    · obtain ⟨x, hx⟩ : ∃ x, ls[j]? = some x := ⟨_, List.getElem?_eq_getElem (by rw [← N1.out]; exact hlt)⟩
      obtain ⟨b1, o1, B1, d1, rfl, _, hb1, g1, hnil, _, v1⟩ := (H1.out.below hB (Nat.le_refl _)).at j x hx
      have cv := v1.conv (d := d1)
      have HT := Lib.hid (take_map_snoc ls j x hx)
      have hlt1 := hA.lt
      have HV3 : Hid ((wr.alloc (.cells #[.string (B x)] 9)).ownsRow (w.heap.size + 1) 9 1 u3 j (((ls.take j).map B).map Value.string)) := Lib.hid (own_keep HO.out ((Below.refl _ _).alloc (Nat.le_refl _) _))
      have HBA : Hid (Below wr.heap.size wr (wr.alloc (.cells #[.string (B x)] 9))) := Lib.hid ((Below.refl _ _).alloc (Nat.le_refl _) _)
      have HA := Lib.hid hA
      have HB := Lib.hid hB
      clear hx v1 hA hB hnil
      generalize x.length = m at g1 cv
      go_wp2_with (refine wpList_append_own _ rfl (.tmp 12) (.tmp 19) 22 rfl (w.heap.size + 1) 9 i0 (.string ⟨#[]⟩) 1 16 Try.underlying22 hi0 hz0 hz1 hz2 rfl (by decide) u3 j _ rfl HV3.out ⟨wr.heap.size, 0, none⟩ 1 1 [.string (B x)] rfl rfl (fun q u hq => by
            match q, hq with
            | 0, hq => rw [Go.WideShapes.add_plain]; exact ((At.new wr 9 #[.string (B x)]).cell 0).trans (by simpa using hq)
            | q + 1, hq => simp at hq) (fun u hu => by rw [List.mem_singleton.1 hu]; rfl) (by omega) (by omega) (by simp; omega) ?_; intro v4 w4 hown4 hgrow4 _)
      have HB4 : Hid (Below (w.heap.size + 1) wr w4) := Lib.hid ((HBA.out.mono (by omega)).grown hgrow4 (by simp; omega) (fun k e => (HV3.out.lt k e).1))
      have K1 := Lib.hid (HA.out.keep HB4.out (by omega))
      have K3 := Lib.hid (HB.out.trans (HB4.out.mono (by omega)))
      have HR4 : Hid (w4.ownsRow (w.heap.size + 1) 9 1 v4 (j + 1) (((ls.take (j + 1)).map B).map Value.string)) := Lib.hid (by rw [HT.out]; exact hown4)
      clear hown4 hgrow4
      go_roundg (n - (j + 1))
      case measure => omega
      case rel => exact ⟨j + 1, by omega, by omega, by go_num, K3.out, K1.out, HR4⟩
    · have hjn : j = n := by omega
      subst hjn
      obtain ⟨A', c', rfl, _, _⟩ := own_form' HO.out
      have FIN : Hid (SRd wr wr.heap.size A' (ls.map B)) := Lib.hid (by
        have h := HO.out
        have e : ls.take j = ls := by rw [N1.out, List.take_length]
        rw [e] at h
        have e2 : j = (ls.map B).length := by rw [List.length_map]; exact N1.out
        rw [e2] at h
        exact SRd.of_own h)
      have NEW : Hid (∀ a, A' = some a → w.heap.size < a.block) := Lib.hid (fun a ha => by
        subst ha
        obtain ⟨g, cs, rfl, h2, _⟩ := own_block' HO.out
        exact h2)
      clear HO hA
      go_wp2
      go_ret
      exact ⟨_, _, rfl, FIN.out, hB, NEW.out⟩
theorem refText_is (R C r k : Int) (A : Option Addr) (n c : Nat) (ls : List (List UInt8)) (w : World) (hf : few ls) (h1 : Gr w 0 w.heap.size A n c ls) :
    Calls Try.prog 41 #[.agg #[.int .i64 R, .int .i64 C, .slice A n c, .int .i64 r, .int .i64 k]] w fun e w' => ∃ A' c', e = .returned (.slice A' n c') ∧ SRd w' w'.heap.size A' (ls.map B) ∧ Below w.heap.size w w' :=
  (refTextN_is R C r k A n c ls w hf h1).mono fun _ _ ⟨A', c', h1, h2, h3, _⟩ => ⟨A', c', h1, h2, h3⟩

def MuchSays (ls : List (List UInt8)) (w : World) (e : Ending) (w' : World) : Prop := ∃ o : Bool, e = .returned (.bool o) ∧ (o = false → few ls) ∧ Below w.heap.size w w'
end Go.Proofs.Yteekihhngjbjgaa.grd
