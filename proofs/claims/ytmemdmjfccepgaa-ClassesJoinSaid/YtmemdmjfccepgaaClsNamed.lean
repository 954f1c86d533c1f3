/- Classes: a class by its name, in a part. -/
import Derived.Test.YtmemdmjfccepgaaClsLay
namespace Go.Proofs.Ytmemdmjfccepgaa.cls
open Go.RowKit Go.Lib
set_option linter.unusedVariables false
set_option linter.unusedSimpArgs false
set_option linter.unnecessarySimpa false
set_option linter.unusedSectionVars false

/-- What is read of the library's variable: that it holds some number. -/
def Vs (n : Nat) (w : World) : Prop := 0 < n ∧ ∃ m, w.cell? ⟨0, 0, none⟩ = some (.int .i64 m)
theorem Vs.below {n : Nat} {w w' : World} (h : Vs n w) (hB : Below n w w') : Vs n w' := ⟨h.1, by obtain ⟨m, hm⟩ := h.2; exact ⟨m, (hB.cell (p := ⟨0, 0, none⟩) h.1).trans hm⟩⟩
theorem Vs.more {n m : Nat} {w : World} (h : Vs n w) (hm : n ≤ m) : Vs m w := ⟨by have := h.1; omega, h.2⟩

theorem index_cutE : ∀ l : List UInt8, (cutE l = none → Lib.index l [58, 93] = -1) ∧ (∀ x, cutE l = some x → Lib.index l [58, 93] = (x.1.length : Int))
  | [] => ⟨fun _ => rfl, fun x h => by simp [cutE] at h⟩
  | c :: r => by
    have ih := index_cutE r
    have hp : ([58, 93] : List UInt8).isPrefixOf (c :: r) = decide (c = 58 ∧ r.head? = some 93) := by
      cases r with
      | nil => simp [List.isPrefixOf]
      | cons d r => simp [List.isPrefixOf, eq_bool]
    unfold cutE Lib.index
    rw [hp]
    by_cases hc : c = 58 ∧ r.head? = some 93
    · rw [if_pos hc]
      refine ⟨fun h => (by cases h), fun x h => ?_⟩
      simp only [Option.some.injEq] at h
      subst h
      simp [hc]
    · rw [if_neg hc]
      have hd : decide (c = 58 ∧ r.head? = some 93) = false := decide_eq_false hc
      rw [hd]
      simp only [Bool.false_eq_true, if_false]
      cases hr : cutE r with
      | none =>
        have := ih.1 hr
        refine ⟨fun _ => (by rw [this]; rfl), fun x h => by simp at h⟩
      | some y =>
        have := ih.2 y hr
        refine ⟨fun h => (by simp at h), fun x h => ?_⟩
        simp only [Option.map_some, Option.some.injEq] at h
        subst h
        rw [this]
        have e : ((y.1.length : Int) == -1) = false := by
          rw [beq_eq_false_iff_ne]; omega
        rw [e]
        simp
theorem cut_cutE (l : List UInt8) : (cutE l = none → Lib.cut l [58, 93] = (l, [], false)) ∧ (∀ x, cutE l = some x → Lib.cut l [58, 93] = (x.1, x.2, true)) := by
  refine ⟨fun h => ?_, fun x h => ?_⟩
  · have := (index_cutE l).1 h
    unfold Lib.cut
    rw [this]
    rfl
  · have e := (index_cutE l).2 x h
    have hl := cutE_some l x h
    unfold Lib.cut
    rw [e, if_pos (by omega)]
    conv => lhs; rw [hl]
    simp
/-- What became of the set at p, and what was told. -/
def Laid (p : Nat) (f : Nat → Bool) (r : Option ((Nat → Bool) × List UInt8)) (w : World) (e : Ending) (w' : World) : Prop :=
  Below p w w' ∧ ((r = none ∧ e = .returned (.tuple #[.string ⟨#[]⟩, .bool false]) ∧ ∃ f', Arr w' p f') ∨ ∃ x, r = some x ∧ e = .returned (.tuple #[.string (B x.2), .bool true]) ∧ Arr w' p (or2 f x.1))

theorem run_indexA (g : Nat → Bool) (k : Nat) (hk : k < 256) (w : World) : (Instr.index 22 (.agg (arr g)) (.int .i64 (k : Int))).run Try.prog w = .ok (.bool (g k)) w := by
  have ha : (isAgg 4).run Try.prog w = .ok false w := by kernel_rfl
  have hs : (Go.sizeOf 4).run Try.prog w = .ok 1 w := by kernel_rfl
  have hg := arr_get g k hk
  have h1 : (0 : Int) ≤ (k : Int) := by omega
  have h2 : (k : Int) < 256 := by omega
  simp [Instr.index, asIntOf, Sem.run_bind, run_underlying und, h1, h2, part, ha, hs, hg, Result.andThen]
  intro h
  omega

theorem class_b (l : List UInt8) (g : Nat → Bool) (ok : Bool) (h1 : clsG l = g) (h2 : (clsOf l).isSome = ok) (w : World) (hl : l.length ≤ 1000000000) :
    Calls Try.prog 13 #[.string (B l)] w fun e w' => e = .returned (.tuple #[.agg (arr g), .bool ok]) ∧ Below w.heap.size w w' := by
  have := class_is (B l) w (by rw [B_size]; unfold maxLen; omega)
  rw [list_B, h1, h2] at this
  exact this

set_option maxHeartbeats 2000000 in
set_option maxRecDepth 100000 in
theorem named_is (w : World) (p : Nat) (f : Nat → Bool) (l : List UInt8) (hl : l.length ≤ 1000000000) (h : Arr w p f) (hV : Vs w.heap.size w) :
    Calls Try.prog 33 #[.string (B l), .pointer (some ⟨p, 0, none⟩)] w (Laid p f (nameN l) w) := by
  obtain ⟨R, hR⟩ : ∃ R, nameN l = R := ⟨_, rfl⟩
  rw [hR]
  have HR := Lib.hid hR
  have HA := Lib.hid h
  have HL := Lib.hid hl
  obtain ⟨hV0, m, hm⟩ := hV
  have C := Try.strings_Cut (B l) ⟨#[58, 93]⟩ m w (by rw [B_size]; omega) hm
  rw [list_B, show (⟨#[58, 93]⟩ : ByteArray).data.toList = [58, 93] from rfl] at C
  clear hR h hl hm
  cases hcut : cutE l with
  | none =>
    rw [(cut_cutE l).1 hcut] at C
    have HC := Lib.hid C
    have hres : R = none := by rw [← HR.out]; exact nameN_none1 l hcut
    subst hres
    obtain ⟨g, hg⟩ : ∃ g, clsG l = g := ⟨_, rfl⟩
    obtain ⟨ok, hok⟩ : ∃ ok, (clsOf l).isSome = ok := ⟨_, rfl⟩
    have D := Lib.hid (fun q => class_b l g ok hg hok (w.drewN q) HL.out)
    clear C hcut HR hg hok
    go_enter Try.func33, Try.ntmps33
    go_wp2_with fail
    go_at_call 39
    refine HC.out.mono ?_
    rintro e w1 ⟨rfl, q, rfl⟩
    go_wp2_with fail
    go_at_call 13
    refine (D.out q).mono ?_
    rintro e w2 ⟨rfl, hB⟩
    have hBB : Below w.heap.size w w2 := ⟨hB.os, hB.tape, hB.output, hB.size, hB.block⟩
    have HB := Lib.hid hBB
    clear hB hBB
    go_wp2_with (first | (refine wpList_allocA rfl rfl ?_; intro w3 hs3 ha3 hb3) | (refine wpList_storeA rfl _ _ rfl _ _ rfl rfl _ ha3 ?_; intro w4 ha4 hb4))
    go_ret2
    have hlt := HA.out.lt
    have hB4 : Below w.heap.size w w4 := HB.out.trans ((hb3.mono HB.out.size).trans (hb4.below HB.out.size))
    exact ⟨hB4.mono (by omega), .inl ⟨rfl, rfl, f, HA.out.keep hB4 hlt⟩⟩
  | some x =>
    rw [(cut_cutE l).2 x hcut] at C
    have HC := Lib.hid C
    have hx := cutE_some l x hcut
    have hxl : x.1.length ≤ 1000000000 := by have h0 := congrArg List.length hx; have := HL.out; simp at h0; omega
    cases hcls : clsOf x.1 with
    | none =>
      have hres : R = none := by rw [← HR.out]; exact nameN_none2 l x hcut hcls
      subst hres
      have D := Lib.hid (fun q => class_b x.1 noB false (by simp [clsG, hcls]) (by rw [hcls]; rfl) (w.drewN q) hxl)
      clear C hcut HR hx hxl hcls
      go_enter Try.func33, Try.ntmps33
      go_wp2_with fail
      go_at_call 39
      refine HC.out.mono ?_
      rintro e w1 ⟨rfl, q, rfl⟩
      go_wp2_with fail
      go_at_call 13
      refine (D.out q).mono ?_
      rintro e w2 ⟨rfl, hB⟩
      have hBB : Below w.heap.size w w2 := ⟨hB.os, hB.tape, hB.output, hB.size, hB.block⟩
      have HB := Lib.hid hBB
      clear hB hBB
      go_wp2_with (first | (refine wpList_allocA rfl rfl ?_; intro w3 hs3 ha3 hb3) | (refine wpList_storeA rfl _ _ rfl _ _ rfl rfl _ ha3 ?_; intro w4 ha4 hb4))
      go_ret2
      have hlt := HA.out.lt
      have hB4 : Below w.heap.size w w4 := HB.out.trans ((hb3.mono HB.out.size).trans (hb4.below HB.out.size))
      exact ⟨hB4.mono (by omega), .inl ⟨rfl, rfl, f, HA.out.keep hB4 hlt⟩⟩
    | some g =>
      have hres : R = some (g, x.2) := by rw [← HR.out]; exact nameN_eq l x.1 x.2 g hcut hcls
      subst hres
      have D := Lib.hid (fun q => class_b x.1 g true (by simp [clsG, hcls]) (by rw [hcls]; rfl) (w.drewN q) hxl)
      clear C hcut HR hx hxl hcls
      go_enter Try.func33, Try.ntmps33
      go_wp2_with fail
      go_at_call 39
      refine HC.out.mono ?_
      rintro e w1 ⟨rfl, q, rfl⟩
      go_wp2_with fail
      go_at_call 13
      refine (D.out q).mono ?_
      rintro e w2 ⟨rfl, hB⟩
      have hBB : Below w.heap.size w w2 := ⟨hB.os, hB.tape, hB.output, hB.size, hB.block⟩
      have HB := Lib.hid hBB
      clear hB hBB
      go_wp2_with (first | (refine wpList_allocA rfl rfl ?_; intro w3 hs3 ha3 hb3) | (refine wpList_storeA rfl _ _ rfl _ _ rfl rfl _ ha3 ?_; intro w4 ha4 hb4) | (refine wpList_loadA rfl _ rfl _ rfl _ ha4 ?_))
      have hlt := HA.out.lt
      have hB4 : Below w.heap.size w w4 := HB.out.trans ((hb3.mono HB.out.size).trans (hb4.below HB.out.size))
      have H4 := Lib.hid (And.intro hB4 (HA.out.keep hB4 hlt))
      clear hb3 hb4 hB4 ha3 ha4 hs3
      go_loopg [29] 256 (fun g' s29 wr => ∃ k : Nat, s29 = .int .i64 k ∧ k ≤ 256 ∧ 256 - k ≤ g' ∧ Hid (Arr wr p (mix k (or2 f g) f) ∧ But p w4 wr))
      case atStart => exact ⟨0, rfl, Nat.zero_le _, by omega, Lib.hid ⟨by rw [mix_zero]; exact H4.out.2, But.refl⟩⟩
      case round =>
        obtain ⟨k, rfl, hk, hg, HI⟩ := hrel
        by_cases hlt : k < 256
        · have hc := HI.out.1.cell hlt
          rw [mix_at] at hc
          have hidx := run_indexA g k hlt
          have hst := setCell_put HI.out.1 k (or2 f g k) hlt
          rw [mix_upd] at hst
          have hfz := HI.out.1.frozen k
          have HP := Lib.hid (And.intro (putA_arr (g := mix (k + 1) (or2 f g) f) HI.out.1.lt) (putA_but (w := wr) (b := p) (g := mix (k + 1) (or2 f g) f)))
          cases hfk : f k with
          | true =>
            have e : or2 f g k = true := by simp [or2, hfk]
            rw [e] at hst
            rw [hfk] at hc
            clear e hfk
            go_wp2
            go_region
            go_wp2
            go_roundg (256 - (k + 1))
            case measure => omega
            case rel => exact ⟨k + 1, by go_num, by omega, by omega, Lib.hid ⟨HP.out.1.drew, HI.out.2.trans HP.out.2.drew⟩⟩
          | false =>
            have e : or2 f g k = g k := by simp [or2, hfk]
            rw [e] at hst
            rw [hfk] at hc
            clear e hfk
            go_wp2
            go_region
            go_wp2
            go_roundg (256 - (k + 1))
            case measure => omega
            case rel => exact ⟨k + 1, by go_num, by omega, by omega, Lib.hid ⟨HP.out.1.drew, HI.out.2.trans HP.out.2.drew⟩⟩
        · obtain rfl : k = 256 := by omega
          have hA' : Arr wr p (or2 f g) := by have := HI.out.1; unfold Arr at this ⊢; rw [mix_end] at this; exact this
          go_wp2
          go_ret2
          exact ⟨((H4.out.1).mono (by have := HA.out.lt; omega)).trans (HI.out.2.below (Nat.le_refl _)), .inr ⟨_, rfl, rfl, hA'⟩⟩
end Go.Proofs.Ytmemdmjfccepgaa.cls
