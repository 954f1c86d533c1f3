/- Terminals: wipe: cells of some rows are made blanks. -/
import Derived.Test.YteekihhngjbjgaaVttWords
namespace Go.Proofs.Yteekihhngjbjgaa.vtt
open Go.RowKit Go.Lib Go.Proofs.Yteekihhngjbjgaa.grd
set_option linter.unusedVariables false
set_option linter.unusedSimpArgs false
set_option linter.unnecessarySimpa false
set_option linter.unusedSectionVars false

/-- Behind the address A stand slices of the bytes of block g: their stretches. -/
structure Sts (w : World) (A : Option Addr) (g size : Nat) (st : List (Nat × Nat)) : Prop where
  cell : ∀ (i : Nat) p, st[i]? = some p → ∃ b off d, A = some ⟨b, off, none⟩ ∧ b ≠ g ∧ w.cell? ⟨b, off + i, none⟩ = some (.slice (some ⟨g, p.1, none⟩) p.2 d)
  fits : ∀ (i : Nat) p, st[i]? = some p → p.1 + p.2 ≤ size ∧ p.2 ≤ 1000000
theorem Sts.but {w w' : World} {A : Option Addr} {g size : Nat} {st : List (Nat × Nat)} (h : Sts w A g size st) (hB : But g w w') : Sts w' A g size st := ⟨fun i p hi => by
  obtain ⟨b, off, d, h1, h2, h3⟩ := h.cell i p hi
  exact ⟨b, off, d, h1, h2, (World.cell?_of_block (hB.block b h2)).trans h3⟩, h.fits⟩
def Done (g : Nat) (cs : Array Value) (w w' : World) : Prop := At w' g 5 cs ∧ But g w w'
theorem Done.step {g x : Nat} {cs : Array Value} {w w' : World} (h : Done g cs w w') : Done g (cs.setIfInBounds x (u8 32)) w (w'.setCell ⟨g, x, none⟩ (u8 32)) := ⟨h.1.set x _, h.2.setCell x _⟩
set_option maxHeartbeats 4000000 in
set_option maxRecDepth 100000 in
theorem wipe_is (A : Option Addr) (n c g : Nat) (st : List (Nat × Nat)) (cs : Array Value) (w : World) (hn : n = st.length) (hm : n ≤ 1000) (hA : At w g 5 cs) (hS : Sts w A g cs.size st) :
    Calls Try.prog 47 #[.slice A n c] w fun e w' => e = .returned (.tuple #[]) ∧ Done g (fills cs st) w w' := by
  have HN := Lib.hid hn
  have HS := Lib.hid hS
  have HA := Lib.hid hA
  clear hn hS hA
  go_enter Try.func47, Try.ntmps47
  go_wp2
  go_loopg [3, 4, 7] n (fun g' s3 s4 s7 wr => ∃ k : Nat, k ≤ n ∧ n - k ≤ g' ∧ s7 = .int .i64 k ∧ Hid (Done g (fills cs (st.take k)) w wr))
  case atStart => exact ⟨0, Nat.zero_le _, by omega, rfl, Lib.hid ⟨HA.out, But.refl _ _⟩⟩
  case round =>
    obtain ⟨k, hk, hg, rfl, HD⟩ := hrel
    by_cases hlt : k < n
    · obtain ⟨p, hp⟩ : ∃ p, st[k]? = some p := ⟨_, List.getElem?_eq_getElem (by rw [← HN.out]; exact hlt)⟩
      obtain ⟨b, off, d, rfl, hbg, hc⟩ := HS.out.cell k p hp
      obtain ⟨hf1, hf2⟩ := HS.out.fits k p hp
      obtain ⟨x, l⟩ := p
      dsimp only at hc hf1 hf2
      have hcr : wr.cell? ⟨b, off + k, none⟩ = some (.slice (some ⟨g, x, none⟩) l d) := (World.cell?_of_block (HD.out.2.block b hbg)).trans hc
      have HT : Hid (fills cs (st.take (k + 1)) = fill1 (fills cs (st.take k)) x l) := Lib.hid (by rw [take_snoc hp, fills_snoc])
      have HF := Lib.hid hf1
      clear hc hf1 hp
      go_wp2
      go_loopg [4, 13] l (fun g' s4 s13 wr' => ∃ j : Nat, j ≤ l ∧ l - j ≤ g' ∧ s13 = .int .i64 j ∧ Hid (Done g (fill1 (fills cs (st.take k)) x j) w wr'))
      case atStart => exact ⟨0, Nat.zero_le _, by omega, rfl, HD⟩
      case round =>
        obtain ⟨j, hj, hg2, rfl, HE⟩ := hrel
        by_cases hjl : j < l
        · have hsz : x + j < (fill1 (fills cs (st.take k)) x j).size := by rw [fill1_size, fills_size]; have := HF.out; omega
          have hcell : wr.cell? ⟨g, x + j, none⟩ = some ((fill1 (fills cs (st.take k)) x j)[x + j]'hsz) := by rw [HE.out.1.cell, Array.getElem?_eq_getElem hsz]
          have hfr := HE.out.1.frozen (x + j)
          generalize (fill1 (fills cs (st.take k)) x j)[x + j]'hsz = old at hcell
          have NX : Hid (Done g (fill1 (fills cs (st.take k)) x (j + 1)) w (wr.setCell ⟨g, x + j, none⟩ (.int .u8 32))) := Lib.hid (by rw [fill1_succ]; exact HE.out.step)
          clear hsz
          go_wp2
          go_roundg (l - (j + 1))
          case measure => omega
          case rel => exact ⟨j + 1, by omega, by omega, by go_num, NX⟩
        · have hjl' : j = l := by omega
          subst hjl'
          have NX : Hid (Done g (fills cs (st.take (k + 1))) w wr) := Lib.hid (by rw [HT.out]; exact HE.out)
          clear HE
          go_wp2
          go_roundg (n - (k + 1))
          case measure => omega
          case rel => exact ⟨k + 1, by omega, by omega, by go_num, NX⟩
    · have hkn : k = n := by omega
      subst hkn
      have FIN : Hid (Done g (fills cs st) w wr) := Lib.hid (by have := HD.out; rwa [HN.out, List.take_length] at this)
      clear HD
      go_wp2
      go_end0
      exact ⟨rfl, FIN.out⟩
end Go.Proofs.Yteekihhngjbjgaa.vtt
