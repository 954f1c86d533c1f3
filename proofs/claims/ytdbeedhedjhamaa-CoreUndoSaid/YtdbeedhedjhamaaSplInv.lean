/- Splices: Inverse, of the program. -/
import Derived.Test.YtdbeedhedjhamaaSplStep
import Derived.Test.YtdbeedhedjhamaaHeld
namespace Go.Proofs.Ytdbeedhedjhamaa.sps
open Go.RowKit Go.Lib pce
set_option linter.unusedVariables false
set_option linter.unusedSimpArgs false
set_option linter.unnecessarySimpa false
set_option linter.unusedSectionVars false

theorem mid_slice (A : Option Addr) (n c x y : Nat) (h : x + y ≤ c) (W : World) :
    (Instr.slice 22 (.slice A n c) (some (.int .i64 (x : Int))) (some (.int .i64 ((x : Int) + y))) none).run Try.prog W = .ok (.slice (tailA A c x) y (c - x)) W := by
  have hu : Try.prog.underlying 22 = some (.slice (Try.prog.elem 22)) := by rw [elemStr]; exact Try.underlying22
  rw [run_slice_lh (P := Try.prog) W 22 A n c hu .i64 .i64 (x : Int) ((x : Int) + y) (by omega) (by omega) (by omega), elemStr, size9]
  simp only [Result.andThen, sliced, Int.toNat_natCast, tailA]
  rw [show ((x : Int) + y).toNat - x = y by omega]
theorem lst_mid {w : World} {F : Nat → Prop} {A : Option Addr} {n c : Nat} {zs : List ByteArray} (h : Lst w F A n c zs) (x y : Nat) (hk : x + y ≤ n) : Lst w F (tailA A c x) y (c - x) (gone zs x y) := by
  have h1 := lst_tail (lst_head h (x + y) hk) x (by omega)
  rw [show x + y - x = y by omega] at h1
  exact h1
theorem StepSays.err {w w' : World} {L ins : List ByteArray} {a d k : Int} {e : Ending} (h : StepSays w L ins a d k e w') (hk : ¬ k = 0) : e = .returned (.tuple #[.slice none 0 0, .int .i64 k]) ∧ Below w.heap.size w w' := by
  rcases h with ⟨_, h1, h2⟩ | ⟨h0, _⟩
  · exact ⟨h1, h2⟩
  · exact absurd h0 hk
theorem StepSays.yes {w w' : World} {L ins : List ByteArray} {a d : Int} {e : Ending} (h : StepSays w L ins a d 0 e w') : ∃ B k c, e = .returned (.tuple #[.slice B k c, .int .i64 0]) ∧ Row w (pce.spl L a.toNat d.toNat ins) (.slice B k c) w' := by
  rcases h with ⟨h0, _⟩ | ⟨_, v, h1, h2⟩
  · exact absurd rfl h0
  · obtain ⟨B, k, c, rfl, _⟩ := id h2
    exact ⟨B, k, c, h1, h2⟩
/-- What Inverse tells: an error, and no splice; or the one that leads back. -/
def InvSays (w : World) (L : List ByteArray) (a d : Int) (m : Nat) (k : Int) (e : Ending) (w' : World) : Prop :=
  (¬ k = 0 ∧ e = .returned (.tuple #[.agg #[.int .i64 0, .int .i64 0, .slice none 0 0], .int .i64 k]) ∧ Below w.heap.size w w') ∨
  (k = 0 ∧ ∃ B n c, e = .returned (.tuple #[.agg #[.int .i64 a, .int .i64 m, .slice B n c], .int .i64 0]) ∧ Row w (gone L a.toNat d.toNat) (.slice B n c) w')
theorem InvSays.below {w w' : World} {L : List ByteArray} {a d k : Int} {m : Nat} {e : Ending} (h : InvSays w L a d m k e w') : Below w.heap.size w w' := by
  rcases h with ⟨_, _, h⟩ | ⟨_, _, _, _, _, h⟩
  · exact h
  · obtain ⟨_, _, _, _, _, _, h⟩ := h; exact h
theorem row_lift {w : World} {base base' n e : Nat} {v : Value} {xs : List Value} (h : w.ownsRow base e 1 v n xs) (hb : base' ≤ base) : w.ownsRow base' e 1 v n xs := by
  refine ⟨h.1, ?_⟩
  rcases h.2 with h0 | ⟨g, cap, cur, hv, hg, r⟩
  · exact .inl h0
  · exact .inr ⟨g, cap, cur, hv, by omega, r⟩
/-- What stands while the inverse is made: all that lay there, the splice, and a block for the one that is made. -/
def Made (w : World) (v : Array Value) (W : World) : Prop := More w.heap.size w W ∧ At W w.heap.size 24 v ∧ ∃ x0 x1 x2, At W (w.heap.size + 1) 24 #[x0, x1, x2]
theorem Made.drew {w W : World} {v : Array Value} (h : Made w v W) : Made w v W.drew := ⟨below_drew h.1, h.2⟩
theorem Made.next {w W W' : World} {v : Array Value} (h : Made w v W) (hB : Below W.heap.size W W') : Made w v W' := by
  obtain ⟨hM, h0, x0, x1, x2, hA⟩ := h
  exact ⟨Below.trans hM (hB.mono (Below.size hM)), h0.same (hB.block _ h0.lt), x0, x1, x2, hA.same (hB.block _ hA.lt)⟩
theorem Made.only {w W W' : World} {v : Array Value} {x0 x1 x2 : Value} (h : Made w v W) (hA : At W' (w.heap.size + 1) 24 #[x0, x1, x2]) (hO : Only (w.heap.size + 1) W W') : Made w v W' := by
  obtain ⟨hM, h0, _⟩ := h
  exact ⟨Below.trans hM (hO.below (by omega)), h0.same (hO.block _ (by omega)), _, _, _, hA⟩
theorem clone_made (F : Nat → Prop) (w : World) (v : Array Value) (A : Option Addr) (n c : Nat) (zs : List ByteArray) (h : Lst w F A n c zs) (hn : n ≤ 100000) (W : World) (hW : Made w v W) :
    Calls Try.prog 38 #[.slice A n c] W fun e w' => ∃ B k cc, e = .returned (.slice B k cc) ∧ Hid (k = zs.length ∧ w'.ownsRow (w.heap.size + 2) 9 1 (.slice B k cc) k (zs.map Value.string)) ∧ Made w v w' := by
  have hL := h.below hW.1
  have hz : w.heap.size + 2 ≤ W.heap.size := by obtain ⟨_, _, _, _, _, hA⟩ := hW; have := hA.lt; omega
  refine (clone_is W A n c zs hL.len hn hL.nil hL.srd).mono ?_
  rintro e w' ⟨x, rfl, B, k, cc, rfl, hk, ho, hB⟩
  exact ⟨B, k, cc, rfl, ⟨hk, row_lift ho hz⟩, hW.next hB⟩
theorem heldM {P Q : Prop} {w W : World} {v : Array Value} (h : P ∧ Q ∧ Made w v W) : Made w v W := h.2.2
theorem heldA {P Q : Prop} {w W : World} {v : Array Value} (h : P ∧ Q ∧ Made w v W) : ∃ x0 x1 x2, At W (w.heap.size + 1) 24 #[x0, x1, x2] := h.2.2.2.2
theorem heldO {P Q : Prop} {w W W' : World} {v : Array Value} {x0 x1 x2 : Value} (hA : At W' (w.heap.size + 1) 24 #[x0, x1, x2]) (hO : Only (w.heap.size + 1) W W') (h : P ∧ Q ∧ Made w v W) : Made w v W' := h.2.2.only hA hO
theorem step_storeS {w : World} {ops : Array Oper} {o : Oper} {a : Act} {K : Act → World → Prop} {Q : Exit → Act → World → Prop} {E : Prop} (hgd : o.guard = none) (x y : Operand) (ho : o.op = .store 24 x y)
    (b : Nat) (x0 x1 : Int) (A : Option Addr) (n c : Nat) (hx : a.eval x = .pointer (some ⟨b, 0, none⟩)) (hy : a.eval y = .agg #[.int .i64 x0, .int .i64 x1, .slice A n c]) (h : ∃ c0 c1 c2, At w b 24 #[c0, c1, c2])
    (hk : ∀ w', At w' b 24 #[.int .i64 x0, .int .i64 x1, .slice A n c] → Only b w w' → K (a.put o.dst undef) w') :
    if Region.wanted o (yielded ops a.tmps) = true then Oper.wp Try.prog o a w K Q else E := by
  have hw : Region.wanted o (yielded ops a.tmps) = true := by simp [Region.wanted, hgd]
  rw [if_pos hw]
  obtain ⟨c0, c1, c2, h⟩ := h
  exact wp_storeS x y ho b x0 x1 A n c hx hy c0 c1 c2 h hk
theorem lst_row {w w' : World} {zs : List ByteArray} {x : Value} (h : Row w zs x w') : ∃ B n c, x = .slice B n c := by obtain ⟨B, n, c, h, _⟩ := h; exact ⟨B, n, c, h⟩
theorem row_only {w1 w2 : World} {zs : List ByteArray} {B : Option Addr} {n c b base : Nat} (h : w1.ownsRow base 9 1 (.slice B n c) n (zs.map Value.string)) (hO : Only b w1 w2) (hb : b < base) : w2.ownsRow base 9 1 (.slice B n c) n (zs.map Value.string) :=
  own_same h fun g hg => hO.block g (by have := (h.lt g hg).1; omega)
end Go.Proofs.Ytdbeedhedjhamaa.sps
