/- Classes: the parts, and Parse. -/
import Derived.Test.YtmemdmjfccepgaaClsPart
namespace Go.Proofs.Ytmemdmjfccepgaa.cls
open Go.RowKit Go.Lib
set_option linter.unusedVariables false
set_option linter.unusedSimpArgs false
set_option linter.unnecessarySimpa false
set_option linter.unusedSectionVars false

theorem run_buildA (w : World) : (Instr.build 22 #[]).run Try.prog w = .ok (.agg (arr noB)) w := by kernel_rfl
section
variable {ops : Array Oper} {rest : List Oper} {op : Oper} {a : Act} {w : World} {Q : Exit → Act → World → Prop}
theorem wpList_buildA (hgd : op.guard = none) (ho : op.op = .build 22 #[])
    (hk : wpList Try.prog ops Q rest (a.put op.dst (.agg (arr noB))) w) : wpList Try.prog ops Q (op :: rest) a w :=
  wpList_plain hgd fun _ hK => by
    unfold Oper.wp execOp
    simp only [ho, Array.map_empty, Sem.run_bind, run_buildA, Result.andThen_ok]
    exact hK _ _ hk
end
section
variable {ρ : Operand → Value} {o : Oper} {w w' : World} {v : Value}
theorem execOp_slice {x : Operand} {k y : Value} (ho : o.op = .slice 9 x (some (.const k)) none none) (hx : ρ x = y) (hk : ρ (.const k) = k) (h : (Instr.slice 9 y (some k) none none).run Try.prog w = .ok v w) : (execOp ρ o).run Try.prog w = .ok (.value v) w := by
  subst hx
  unfold execOp
  simp only [ho, Option.map_some, Option.map_none, hk, Instr.sliceAt, Sem.run_bind, run_underlying Try.underlying9, h, Result.andThen_ok]
  rfl
theorem execOp_moveV {x : Operand} (ho : o.op = .move x) (hx : ρ x = v) : (execOp ρ o).run Try.prog w = .ok (.value v) w := by
  subst hx
  exact execOp_move ho
theorem execOp_assignV {x : Operand} (ho : o.op = .assign x) (hx : ρ x = v) : (execOp ρ o).run Try.prog w = .ok (.value v) w := by
  subst hx
  exact execOp_assign ho
theorem execOp_store {t : TypeId} {x y : Operand} (ho : o.op = .store t x y) (h : (Instr.storeAt t (ρ x) (ρ y)).run Try.prog w = .ok () w') : (execOp ρ o).run Try.prog w = .ok .skip w' := by
  unfold execOp
  simp only [ho, Sem.run_bind, h, Result.andThen_ok]
  rfl
end
theorem part_b (l : List UInt8) (R : Option ((Nat → Bool) × List UInt8)) (hR : partN l = R) (w : World) (p : Nat) (f : Nat → Bool) (hl : l.length ≤ 1000000000) (h : Arr w p f) (hV : Vs w.heap.size w) :
    Calls Try.prog 27 #[.string (B l), .pointer (some ⟨p, 0, none⟩)] w (Laid p f R w) := by
  subst hR
  exact part_is w p f l hl h hV
/-- What is told of a text's parts. -/
def retParts : Option ((Nat → Bool) × List UInt8) → Value
  | none => .tuple #[.agg (arr noB), .string ⟨#[]⟩, .bool false]
  | some x => .tuple #[.agg (arr x.1), .string (B x.2), .bool true]

set_option maxHeartbeats 2000000 in
set_option maxRecDepth 100000 in
theorem parts_is (w : World) (l : List UInt8) (hl : l.length ≤ 1000000000) (hV : Vs w.heap.size w) :
    Calls Try.prog 19 #[.string (B l)] w fun e w' => e = .returned (retParts (allN noB l)) ∧ Below w.heap.size w w' := by
  obtain ⟨R, hR⟩ : ∃ R, allN noB l = R := ⟨_, rfl⟩
  rw [hR]
  have HR := Lib.hid hR
  have HL := Lib.hid hl
  have HV := Lib.hid hV
  obtain ⟨m, hm⟩ : ∃ m, l.length = m := ⟨_, rfl⟩
  have HM := Lib.hid hm
  clear hR hl hV hm
  go_enter Try.func19, Try.ntmps19
  go_wp2_with (refine wpList_allocA rfl rfl ?_; intro w1 hs1 ha1 hb1)
  have H1 := Lib.hid (And.intro hs1 (And.intro ha1 hb1))
  clear hs1 ha1 hb1
  go_loopg [3, 4, 5] (m + 1) (fun g s3 s4 s5 wr => ∃ (r : List UInt8) (first ok : Bool) (f : Nat → Bool), s3 = .string (B r) ∧ s4 = .bool ok ∧ s5 = .bool first ∧ r.length < g ∧ Hid (r.length ≤ m ∧ partsN (r.length + 1) first f r = R ∧ Arr wr w.heap.size f ∧ Below w.heap.size w wr ∧ w.heap.size < wr.heap.size))
  case atStart => exact ⟨l, true, false, noB, rfl, rfl, rfl, by rw [HM.out]; omega, Lib.hid ⟨by rw [HM.out]; exact Nat.le_refl _, HR.out, H1.out.2.1, H1.out.2.2, by rw [H1.out.1]; omega⟩⟩
  case round =>
    obtain ⟨r, first, ok, f, rfl, rfl, rfl, hg, HI⟩ := hrel
    have hrl : r.length ≤ 1000000000 := by have := HI.out.1; have := HM.out; have := HL.out; omega
    have hV2 : Vs wr.heap.size wr := ((HV.out.below HI.out.2.2.2.1)).more (Nat.le_of_lt HI.out.2.2.2.2)
    obtain ⟨P, hP⟩ : ∃ P, partN r = P := ⟨_, rfl⟩
    have CP := Lib.hid (part_b r P hP wr w.heap.size f hrl HI.out.2.2.1 hV2)
    have HP := Lib.hid hP
    have HRL := Lib.hid hrl
    clear hrl hV2 hP
    cases first with
    | true =>
      go_wp2_with fail
      go_at_call 27
      refine CP.out.mono ?_
      rintro e w2 ⟨hB, hh⟩
      rcases hh with ⟨hr, rfl, f', hf'⟩ | ⟨y, hr, rfl, hf'⟩
      · have hres : R = none := by
          rw [← HI.out.2.1]
          exact partsN_none _ _ _ _ (fun h => (by cases h.1)) (by rw [HP.out]; exact hr)
        have G := Lib.hid (And.intro hB hres)
        clear hB hr hres
        go_wp2_with (first | (refine wpList_buildA rfl rfl ?_) | (refine wpList_storeA rfl _ _ rfl _ _ rfl rfl _ hf' ?_; intro w3 ha3 hb3))
        (try simp only [Exit.inBlock, Exit.then])
        refine bodyPost_ret (results_A3 rfl rfl ha3) rfl ?_
        exact ⟨by rw [G.out.2]; rfl, (HI.out.2.2.2.1.trans G.out.1).trans (hb3.below (Nat.le_refl _))⟩
      · have hlen := partN_len r y (by rw [HP.out]; exact hr)
        have hres : partsN (y.2.length + 1) false (or2 f y.1) y.2 = R := by
          rw [← HI.out.2.1, partsN_step r.length true f r y (fun h => (by cases h.1)) (by rw [HP.out]; exact hr)]
          exact partsN_fuel _ _ _ _ _ (by omega) (by omega)
        have G := Lib.hid (And.intro hB (And.intro hres (And.intro hlen hf')))
        clear hB hr hres hlen hf'
        go_wp2
        go_roundg (y.2.length + 1)
        case measure => have := G.out.2.2.1; omega
        case rel =>
          have h1 := G.out.2.2.1
          have h2 := HI.out
          exact ⟨y.2, false, true, or2 f y.1, rfl, rfl, rfl, by omega, Lib.hid ⟨by omega, G.out.2.1, G.out.2.2.2, h2.2.2.2.1.trans G.out.1, Nat.lt_of_lt_of_le h2.2.2.2.2 G.out.1.size⟩⟩
    | false =>
      cases hh : decide (r.head? = some 93) with
      | true =>
        have C1 := Lib.hid (has1_is r 93 true hh wr)
        have hhd : r.head? = some 93 := of_decide_eq_true hh
        have hres : R = some (f, r.drop 1) := by rw [← HI.out.2.1]; exact partsN_end _ _ _ hhd
        have hpos : 1 ≤ r.length := by
          cases r with
          | nil => cases hhd
          | cons a r => simp
        have s1 := slice_drop r 1 1 rfl hpos
        subst hres
        clear hh hhd hpos
        go_wp2_with fail
        go_at_call 26
        refine C1.out.mono ?_
        rintro e w' ⟨rfl, rfl⟩
        go_wp2
        refine wp_region_held (S := fun W => Arr W w.heap.size f) (by kernel_rfl) ?_
        change wpAnyH _ _ _ _ _ 6 _ _ _
        have HA8 : Arr { w' with drawn := w'.drawn + 1 } w.heap.size f := HI.out.2.2.1
        refine wpAnyH_take (i := 0) (v := .agg (arr f)) rfl (by kernel_rfl) (by kernel_rfl) (by kernel_rfl) (fun c a w h => h) (.inl ⟨rfl, fun W hW => execOp_load rfl (run_loadAtA hW)⟩) HA8 ?_
        refine wpAnyH_take (i := 1) (v := .string (B r)) rfl (by kernel_rfl) (by kernel_rfl) (by kernel_rfl) (fun c a w h => h) (.inl ⟨rfl, fun W hW => execOp_moveV (x := .tmp 3) rfl rfl⟩) HA8 ?_
        refine wpAnyH_take (i := 2) (v := .string (B (r.drop 1))) rfl (by kernel_rfl) (by kernel_rfl) (by kernel_rfl) (fun c a w h => h) (.inl ⟨rfl, fun W hW => execOp_slice (x := .tmp 22) rfl rfl rfl (s1 W)⟩) HA8 ?_
        refine wpAnyH_all (rs := [3]) (by kernel_rfl) (by simp) ?_
        intro i hi
        obtain rfl : i = 3 := by simpa using hi
        have HP8 := putA_arr (g := f) HA8.lt
        have HQ8 := putA_but (w := { w' with drawn := w'.drawn + 1 }) (b := w.heap.size) (g := f)
        refine wpOp_skip rfl rfl (execOp_store rfl (run_storeAtA (g := f) HA8)) ⟨HP8, ?_⟩
        refine wpAnyH_take (i := 4) (v := .string (B (r.drop 1))) rfl (by kernel_rfl) (by kernel_rfl) (by kernel_rfl) (fun c a w h => h) (.inl ⟨rfl, fun W hW => execOp_assignV (x := .tmp 23) rfl rfl⟩) HP8 ?_
        refine wpAnyH_take (i := 5) (v := .bool true) rfl (by kernel_rfl) (by kernel_rfl) (by kernel_rfl) (fun c a w h => h) (.inl ⟨rfl, fun W hW => execOp_assignV (x := .const (.bool true)) rfl rfl⟩) HP8 ?_
        refine wpAnyH_done (by kernel_rfl) ?_ _
        rename_i hK
        simp only [Exit.then]
        refine hK _ _ ?_
        refine wp_ret ?_
        have HB0 : Below w.heap.size w' { w' with drawn := w'.drawn + 1 } := ⟨rfl, rfl, rfl, Nat.le_refl _, fun _ _ => rfl⟩
        exact bodyPost_ret (results_A3 rfl rfl HP8) rfl ⟨rfl, HI.out.2.2.2.1.trans (HB0.trans (HQ8.below (Nat.le_refl _)))⟩
      | false =>
        have C1 := Lib.hid (has1_is r 93 false hh wr)
        have HH := Lib.hid (of_decide_eq_false hh)
        clear hh
        go_wp2_with fail
        go_at_call 26
        refine C1.out.mono ?_
        rintro e w' ⟨rfl, rfl⟩
        go_wp2_with fail
        go_at_call 27
        refine CP.out.mono ?_
        rintro e w2 ⟨hB, hh⟩
        rcases hh with ⟨hr, rfl, f', hf'⟩ | ⟨y, hr, rfl, hf'⟩
        · have hres : R = none := by
            rw [← HI.out.2.1]
            exact partsN_none _ _ _ _ (fun h => HH.out h.2) (by rw [HP.out]; exact hr)
          have G := Lib.hid (And.intro hB hres)
          clear hB hr hres
          go_wp2_with (first | (refine wpList_buildA rfl rfl ?_) | (refine wpList_storeA rfl _ _ rfl _ _ rfl rfl _ hf' ?_; intro w3 ha3 hb3))
          (try simp only [Exit.inBlock, Exit.then])
          refine bodyPost_ret (results_A3 rfl rfl ha3) rfl ?_
          exact ⟨by rw [G.out.2]; rfl, (HI.out.2.2.2.1.trans G.out.1).trans (hb3.below (Nat.le_refl _))⟩
        · have hlen := partN_len r y (by rw [HP.out]; exact hr)
          have hres : partsN (y.2.length + 1) false (or2 f y.1) y.2 = R := by
            rw [← HI.out.2.1, partsN_step r.length false f r y (fun h => HH.out h.2) (by rw [HP.out]; exact hr)]
            exact partsN_fuel _ _ _ _ _ (by omega) (by omega)
          have G := Lib.hid (And.intro hB (And.intro hres (And.intro hlen hf')))
          clear hB hr hres hlen hf'
          go_wp2
          go_roundg (y.2.length + 1)
          case measure => have := G.out.2.2.1; omega
          case rel =>
            have h1 := G.out.2.2.1
            have h2 := HI.out
            exact ⟨y.2, false, true, or2 f y.1, rfl, rfl, rfl, by omega, Lib.hid ⟨by omega, G.out.2.1, G.out.2.2.2, h2.2.2.2.1.trans G.out.1, Nat.lt_of_lt_of_le h2.2.2.2.2 G.out.1.size⟩⟩
end Go.Proofs.Ytmemdmjfccepgaa.cls
