/- FilesTell, walked. -/
import Derived.Test.YtpdegpppeepphaaFilTwin
import Derived.Deep.RegionHeld3
import Derived.Deep.AppendLies
import Derived.Deep.CutRange
import Derived.BigQuiet
namespace Go.Proofs.Ytpdegpppeepphaa.fil
open Go.RowKit Go.Lib Go.Maps Go.WideMaps
set_option linter.unusedVariables false
set_option linter.unusedSimpArgs false
set_option linter.unnecessarySimpa false
set_option linter.unusedSectionVars false

set_option maxRecDepth 100000 in
theorem append_ints {w : World} {ty : TypeId} {base : Nat} {v : Value} {n : Nat} {xs : List Value} (hown : w.ownsRow base 3 1 v n xs) {A : Option Addr} {c lo hi : Nat} {ks : List Int} (hk : LRd w lo hi A (iv ks)) (hnil : A = none → c = 0) (hb : n + ks.length ≤ 1000000) (hbase : base ≤ w.heap.size) :
    ∃ v' w', (Builtin.append_ #[31, 31] ty #[v, .slice A ks.length c]).run Try.prog w = .ok v' w' ∧ w'.ownsRow base 3 1 v' (n + ks.length) (xs ++ iv ks) ∧ w.grownBy w' v.ownBlock := by
  obtain ⟨i0, hi0, hz0, hz1, hz2⟩ := info_parts info3
  have hml : (1000000 : Nat) ≤ maxLen := by unfold maxLen; omega
  rcases A with _ | a
  · have hc0 := hnil rfl
    subst hc0
    have hk0 : ks = [] := List.eq_nil_of_length_eq_zero (by
      rcases Nat.eq_zero_or_pos ks.length with h | h
      · exact h
      · obtain ⟨b, off, e, _⟩ := hk (by rw [iv_length]; exact h)
        cases e)
    subst hk0
    refine ⟨v, w, run_append_owned_none w base _ ty 3 i0 1 Try.underlying31 hi0 v n xs hown, ?_, ⟨rfl, rfl, rfl, Nat.le_refl _, fun _ _ _ => rfl⟩⟩
    simpa [iv] using hown
  · obtain ⟨v', w', h1, h2, h3, _⟩ := run_append_own (P := Try.prog) w base 31 ty 3 i0 (.int .i64 0) 1 8 Try.underlying31 hi0 hz0 hz1 hz2 rfl (by decide) v n xs hown a ks.length c (iv ks) (by rw [iv_length]; omega) (fun j u hj => by
        have hjl := (List.getElem?_eq_some_iff.1 hj).1
        obtain ⟨b, off, e, _, _, h3⟩ := hk (by omega)
        injection e with e
        subst e
        rw [Go.WideShapes.add_plain]
        exact h3 j u hj) (fun u hu => by obtain ⟨z, _, rfl⟩ := List.mem_map.1 hu; rfl) (by omega) (by omega) hbase
    exact ⟨v', w', h1, h2, h3⟩
set_option maxRecDepth 100000 in
theorem step_append_ints {w : World} {ops : Array Oper} {o : Oper} {a : Act} {K : Act → World → Prop} {Q : Exit → Act → World → Prop} {E : Prop} (hgd : o.guard = none) (sl x : Operand)
    (ho : o.op = .call { callee := .builtin .append, args := #[sl, x], argTypes := #[31, 31] }) (base : Nat) (v : Value) (n : Nat) (xs : List Value) (hs : a.eval sl = v) (hown : w.ownsRow base 3 1 v n xs) (A : Option Addr) (c lo hi : Nat) (ks : List Int) (hx : a.eval x = .slice A ks.length c) (hk : LRd w lo hi A (iv ks)) (hnil : A = none → c = 0) (hb : n + ks.length ≤ 1000000) (hbase : base ≤ w.heap.size)
    (h : ∀ v' w', w'.ownsRow base 3 1 v' (n + ks.length) (xs ++ iv ks) → w.grownBy w' v.ownBlock → Below base w w' → K (a.put o.dst v') w') :
    if Region.wanted o (yielded ops a.tmps) = true then Oper.wp Try.prog o a w K Q else E := by
  have hw : Region.wanted o (yielded ops a.tmps) = true := by simp [Region.wanted, hgd]
  rw [if_pos hw]
  obtain ⟨v', w', hr, h2, h3⟩ := append_ints (ty := o.type) hown hk hnil hb hbase
  unfold Oper.wp execOp
  simp only [ho, resolve, invoke, builtin, Sem.run_bind, Sem.run_pure, Result.andThen_ok, List.map_toArray, List.map_cons, List.map_nil, hs, hx, hr]
  exact h v' w' h2 h3 ((Below.refl base w).grown h3 hbase (fun j hj => (hown.lt j hj).1))

theorem low_alloc {n : Nat} {wb W : World} (h : More n wb W) (hn : n ≤ wb.heap.size) (o : Obj) : More n wb (W.alloc o) := Below.alloc h (Nat.le_trans hn h.to.size) o
theorem low_drew {n : Nat} {wb W : World} (h : More n wb W.drew) : More n wb W := ⟨h.to.os, h.to.tape, h.to.output, h.to.size, h.to.block⟩
theorem low_alloc_drew {n : Nat} {wb W : World} (h : More n wb W.drew) (hn : n ≤ wb.heap.size) (o : Obj) : More n wb (W.alloc o).drew := below_drew (low_alloc (low_drew h) hn o)
theorem low_set {n : Nat} {wb W : World} (h : More n wb W) (i : Nat) (u : Value) : More n wb (W.setCell ⟨n, i, none⟩ u) := Below.setCell h (Nat.le_refl _) u
theorem low_set_drew {n : Nat} {wb W : World} (h : More n wb W.drew) (i : Nat) (u : Value) : More n wb (W.setCell ⟨n, i, none⟩ u).drew := below_drew (low_set (low_drew h) i u)
theorem held_low {n : Nat} {wb W : World} {P : Prop} (h : P ∧ More n wb W) : More n wb W := h.2
theorem cell_alloc_new (W : World) (v : Value) (t : TypeId) : (W.alloc (.cells #[v] t)).cell? ⟨W.heap.size, 0, none⟩ = some v := by simp
theorem one_LRd {W : World} {g : Nat} {z : Int} (h : W.cell? ⟨g, 0, none⟩ = some (.int .i64 z)) : LRd W g (g + 1) (some ⟨g, 0, none⟩) (iv [z]) := fun _ =>
  ⟨g, 0, rfl, Nat.le_refl _, Nat.lt_succ_self _, fun j u hj => by
    rcases j with _ | j
    · simp [iv] at hj; rw [← hj]; exact h
    · simp [iv] at hj⟩
theorem elemInts : Try.prog.elem 31 = 3 := by kernel_rfl
theorem size3 (W : World) : (Go.sizeOf 3).run Try.prog W = .ok 1 W := by kernel_rfl
theorem ints_head (A : Option Addr) (n c m : Nat) (h : m ≤ c) (W : World) :
    (Instr.slice 31 (.slice A n c) none (some (.int .i64 (m : Int))) none).run Try.prog W = .ok (.slice A m c) W := by
  have hu : Try.prog.underlying 31 = some (.slice (Try.prog.elem 31)) := by rw [elemInts]; exact Try.underlying31
  rw [run_slice_h (P := Try.prog) W 31 A n c hu .i64 (m : Int) (by omega) (by omega), elemInts, size3]
  simp only [Result.andThen, sliced, Int.toNat_natCast]
  cases A with
  | none => simp
  | some a => simp [addZero]
theorem owns_drew {w : World} {base e size n : Nat} {v : Value} {xs : List Value} (h : w.ownsRow base e size v n xs) : w.drew.ownsRow base e size v n xs := h
theorem made_row {w : World} {base m : Nat} {MC : Array Value} (hb : base ≤ w.heap.size) (hm : m ≤ 1000000) (hs : MC.size = m * 1) : (w.alloc (.cells MC 3)).ownsRow base 3 1 (.slice (some ⟨w.heap.size, 0, none⟩) 0 m) 0 [] :=
  World.ownsRow_made w MC m hb (by unfold maxLen; omega) hs
theorem made_row2 {w : World} {base m g : Nat} {MC : Array Value} (hg : g = w.heap.size) (hb : base ≤ w.heap.size) (hm : m ≤ 1000000) (hs : MC.size = m * 1) : (w.alloc (.cells MC 3)).ownsRow base 3 1 (.slice (some ⟨g, 0, none⟩) 0 m) 0 [] := by
  subst hg; exact made_row hb hm hs
theorem up_fresh2 {w : World} (o : Obj) : Below w.heap.size w (w.alloc o) := (Below.refl _ w).alloc (Nat.le_refl _) o
set_option maxHeartbeats 4000000 in
set_option maxRecDepth 100000 in
theorem law3 (cap : Int) (A : Option Addr) (c n : Nat) (ds : List Dt) (w : World) (hcap : -9223372036854775808 ≤ cap ∧ cap ≤ 9223372036854775807) (hn : n = ds.length) (hnm : n ≤ 9223372036854775807) (h : Dos w w.heap.size A ds) (hnil : ∀ d ∈ ds, d.kA = none → d.kc = 0)
    (hdoes : Hid (∀ W, Calls Try.prog 16 #[] W fun e w' => e = .returned (.bool true) ∧ Below W.heap.size W w')) :
    Calls Try.prog 3 #[.int .i64 cap, .slice A n c] w fun e w' => e = .returned (.bool true) ∧ Below w.heap.size w w' := by
  have CM := Lib.hid (much2_is A c n w.heap.size ds w hn hnm (Nat.le_refl _) h)
  have HN := Lib.hid hn
  have HD := Lib.hid h
  have HNIL := Lib.hid hnil
  clear hn h hnil
  go_enter Try.func3, Try.ntmps3
  go_wp2_with fail
  go_at_call 9
  refine CM.out.mono ?_
  rintro e w1 ⟨he, hB1⟩
  clear CM
  rcases he with rfl | ⟨rfl, h120, h60⟩
  · go_wp2
    go_ret
    exact ⟨rfl, hB1⟩
  have H6 := Lib.hid h60
  rw [← HN.out] at h120
  clear h60
  have hz1 := hB1.size
  by_cases hc : cap < 1 ∨ 1048576 < cap
  · have C0 := Lib.hid (new_no cap w1 hc)
    have C1 := Lib.hid (refNew_no cap w1 hc)
    clear hc
    go_wp2_with fail
    go_at_call 10
    refine C0.out.mono ?_
    rintro e w' ⟨rfl, rfl⟩
    clear C0
    go_wp2_with fail
    go_at_call 11
    refine C1.out.mono ?_
    rintro e w' ⟨rfl, rfl⟩
    clear C1
    go_wp2
    go_loopg [9] 1 (fun g s9 wr => s9 = .int .i64 0 ∧ wr = w1)
    case atStart => exact ⟨rfl, rfl⟩
    case round =>
      obtain ⟨rfl, rfl⟩ := hrel
      by_cases h0 : 0 < n
      · have hd0 : decide ((0 : Int) < (n : Int)) = true := decide_eq_true (by omega)
        go_wp2_with fail
        go_at_call 16
        refine (hdoes.out _).mono ?_
        rintro e w9 ⟨rfl, o4⟩
        go_wp2
        go_ret
        exact ⟨rfl, hB1.trans (o4.mono hz1)⟩
      · have hd0 : decide ((0 : Int) < (n : Int)) = false := decide_eq_false (by omega)
        go_wp2_with fail
        go_at_call 16
        refine (hdoes.out _).mono ?_
        rintro e w9 ⟨rfl, o4⟩
        go_wp2
        go_ret
        exact ⟨rfl, hB1.trans (o4.mono hz1)⟩
  obtain ⟨k, rfl⟩ : ∃ k : Nat, cap = k := ⟨cap.toNat, by omega⟩
  have hk1 : 1 ≤ k := by omega
  have hk2 : k ≤ 1048576 := by omega
  have C0 := Lib.hid (new_is k w1 hk1 hk2)
  clear hc
  go_wp2_with fail
  go_at_call 10
  refine C0.out.mono ?_
  rintro e w2 ⟨rfl, hB2, hI2⟩
  clear C0
  have hz2 := hB2.size
  have C1 := Lib.hid (refNew_is k w2 hk1 hk2)
  go_wp2_with fail
  go_at_call 11
  refine C1.out.mono ?_
  rintro e w3 ⟨rfl, hB3, hI3⟩
  clear C1
  have hz3 := hB3.size
  have HB0 : BothR w1.heap.size w1 (w1.heap.size + 1) w2.heap.size (sNew k) w3 := ⟨hB2.trans (hB3.mono hz2), _, _, fun b hb => hb.1, fun b hb => Nat.le_trans hz2 hb.1, fun b hb hg => by have := hb.2; have := hg.1; omega, hI2.below hB3, hI3⟩
  have HDn : Hid (Dos w1 w.heap.size A ds) := Lib.hid (HD.out.belowN hB1)
  have HBW := Lib.hid hB1
  clear hI2 hI3 hB2 hB3 hB1
  generalize hN1 : w1.heap.size = N at *
  generalize w2.heap.size = rb at *
  have HNn := Lib.hid hN1
  clear hN1
  go_wp2
  go_loopg [9] n (fun g s9 wr => ∃ (i : Nat) (s : St), s9 = .int .i64 i ∧ i ≤ n ∧ n - i ≤ g ∧ BothR N w1 (N + 1) rb s wr ∧ s.starts ≤ i)
  case atStart => exact ⟨0, sNew k, rfl, Nat.zero_le _, by omega, HB0, Nat.le_refl _⟩
  case round =>
    obtain ⟨i, s, rfl, hi, hg, hBo, hst⟩ := hrel
    clear HB0
    obtain ⟨hBn, F, G, f1, f2, f3, f4, f5⟩ := hBo
    have hnw : N ≤ wr.heap.size := by have h1 := hBn.size; have h2 := HNn.out; omega
    have HDr := HDn.out.belowN (hBn.mono (show w.heap.size ≤ N by omega))
    by_cases hlt : i < n
    · obtain ⟨d, hd⟩ : ∃ d, ds[i]? = some d := ⟨ds[i]'(by rw [← HN.out]; exact hlt), List.getElem?_eq_getElem _⟩
      have hdm := List.mem_of_getElem? hd
      have hok := HDr.ok d hdm
      have hk6 := H6.out d hdm
      have hnl := HNIL.out d hdm
      have hkd := HDr.lists d hdm
      obtain ⟨b, off, rfl, hb, g0, g1, g2, g3, g4, g5⟩ := HDr.at hd
      have hkl : d.k.length ≤ 60 := hk6.1
      have hkc : d.k.length ≤ d.kc := hok.k
      have hkc9 : d.kc ≤ 9223372036854775807 := by have := hok.kc; unfold maxLen at this; omega
      have HOK := Lib.hid hok
      have HKD := Lib.hid hkd
      have HDr' := Lib.hid HDr
      have h4t := Lib.hid hk6.2
      obtain ⟨i0, hi0, hz0, hz1', hz2'⟩ := info_parts info3
      have HDD := Lib.hid hd
      clear hok hkd HDr hd hdm hk6
      have hwk : IntKind.i64.wrap ((d.k.length : Int) + 1) = (d.k.length : Int) + 1 := IntWalk.i64_in _ (by omega)
      have hX := At.new wr 33 #[.int .u8 d.what, .string d.a, .string d.b, .string d.t, .int .i64 d.n, .slice d.kA d.k.length d.kc]
      have hup := up_fresh2 (w := wr) (.cells #[.int .u8 d.what, .string d.a, .string d.b, .string d.t, .int .i64 d.n, .slice d.kA d.k.length d.kc] 33)
      have hxs : (wr.alloc (.cells #[.int .u8 d.what, .string d.a, .string d.b, .string d.t, .int .i64 d.n, .slice d.kA d.k.length d.kc] 33)).heap.size = wr.heap.size + 1 := by simp
      go_upto_region 11 with (fail)
      generalize wr.alloc (.cells #[.int .u8 d.what, .string d.a, .string d.b, .string d.t, .int .i64 d.n, .slice d.kA d.k.length d.kc] 33) = wx at *
      have f4x := f4.below hup
      have f5x := f5.below hup
      have hFl := f4.lt
      have hGl := f5.lt
      have hBx : Below N w1 wx := hBn.trans (hup.mono hnw)
      have HKx := Lib.hid (HKD.out.belowN (hup.mono (show w.heap.size ≤ wr.heap.size by omega)))
      have e5 : wx.cell? ⟨b, off + i * 6 + 5, none⟩ = some (.slice d.kA d.k.length d.kc) := (hup.cell (p := ⟨b, off + i * 6 + 5, none⟩) (by show b < _; omega)).trans g5
      have hxl := hX.lt
      have HXS := Lib.hid hxs
      clear hxs
      have SK : Hid (∀ W, More wr.heap.size wx W → W.cell? ⟨b, off + i * 6 + 5, none⟩ = some (.slice d.kA d.k.length d.kc) ∧ More wr.heap.size wx W) := Lib.hid (fun W hW => by
        have h2 : Below wr.heap.size wx W := hW
        exact ⟨(h2.cell (p := ⟨b, off + i * 6 + 5, none⟩) (by show b < _; omega)).trans e5, hW⟩)
      obtain ⟨MC, HMC, hms⟩ : ∃ MC : Array Value, Hid (MC.size = (d.k.length + 1) * 1) ∧ ∀ W : World, (Instr.makeSlice 31 (.int .i64 0) (.int .i64 ((d.k.length : Int) + 1))).run Try.prog W = .ok (.slice (some ⟨W.heap.size, 0, none⟩) 0 (d.k.length + 1)) (W.alloc (.cells MC 3)) := by
        refine ⟨madeCells (Value.int .i64 0).cells ((((d.k.length : Int) + 1).toNat) * i0.size), Lib.hid (by rw [size_madeCells]; rw [hz1', show (((d.k.length : Int) + 1).toNat) = d.k.length + 1 by omega]), fun W => ?_⟩
        rw [run_makeSlice (P := Try.prog) W 31 3 i0 (.int .i64 0) Try.underlying31 hi0 hz0 .i64 .i64 0 ((d.k.length : Int) + 1) (by omega) (by omega) (by rw [hz1']; omega) (by rw [hz2']; omega) (by omega)]
        simp
      have S0 := SK.out wx.drew (below_drew (Below.refl _ _))
      clear g0 g1 g2 g3 g4 g5 hBn f4 f5 e5
      obtain ⟨S1, S2⟩ := S0
      have HX := Lib.hid hX
      go_cut [] (fun wy => ∃ M o1 c1, At wy wr.heap.size 33 #[.int .u8 d.what, .string d.a, .string d.b, .string d.t, .int .i64 d.n, .slice (some ⟨M, o1, none⟩) d.k.length c1] ∧ Hid (o1 = 0) ∧ d.k.length + 1 ≤ c1 ∧ c1 ≤ maxLen ∧ wy.ownsRow wx.heap.size 3 1 (.slice (some ⟨M, o1, none⟩) (d.k.length + 1) c1) (d.k.length + 1) (iv (d.k ++ [99])) ∧ Turned (fun b => b = wr.heap.size) wx wy)
      case first =>
        have HEND : Hid (∀ W M o1 c1, Below wx.heap.size wx W → Hid (o1 = 0) → d.k.length + 1 ≤ c1 → c1 ≤ maxLen → W.ownsRow wx.heap.size 3 1 (.slice (some ⟨M, o1, none⟩) (d.k.length + 1) c1) (d.k.length + 1) (iv d.k ++ iv [99]) →
            ∃ M2 o2 c2, At (W.setCell ⟨wr.heap.size, 5, none⟩ (.slice (some ⟨M, o1, none⟩) d.k.length c1)) wr.heap.size 33 #[.int .u8 d.what, .string d.a, .string d.b, .string d.t, .int .i64 d.n, .slice (some ⟨M2, o2, none⟩) d.k.length c2] ∧ Hid (o2 = 0) ∧ d.k.length + 1 ≤ c2 ∧ c2 ≤ maxLen ∧ (W.setCell ⟨wr.heap.size, 5, none⟩ (.slice (some ⟨M, o1, none⟩) d.k.length c1)).ownsRow wx.heap.size 3 1 (.slice (some ⟨M2, o2, none⟩) (d.k.length + 1) c2) (d.k.length + 1) (iv (d.k ++ [99])) ∧ Turned (fun b => b = wr.heap.size) wx (W.setCell ⟨wr.heap.size, 5, none⟩ (.slice (some ⟨M, o1, none⟩) d.k.length c1))) := Lib.hid (fun W M o1 c1 hB h0 h1 h2 h3 => by
          have hXl := HX.out.lt
          refine ⟨M, o1, c1, At.set (HX.out.same (hB.block _ hXl)) 5 _, h0, h1, h2, ?_, (Turned.of_below hB (fun b => b = wr.heap.size)).setCell (p := ⟨wr.heap.size, 5, none⟩) (.inl rfl) _⟩
          rw [show iv (d.k ++ [99]) = iv d.k ++ iv [99] by simp [iv]]
          exact own_same h3 (fun b hb => Below.heap_setCell W ⟨wr.heap.size, 5, none⟩ _ b (fun e => by have e' : b = wr.heap.size := e; have := (h3.lt b hb).1; omega)))
        go_region_held3 (fun W => W.cell? ⟨b, off + i * 6 + 5, none⟩ = some (.slice d.kA d.k.length d.kc) ∧ More wr.heap.size wx W) (first | assumption | exact ⟨by assumption, by assumption⟩ | exact SK.out _ (low_alloc_drew (held_low (by assumption)) (by omega) _) | exact SK.out _ (low_alloc (held_low (by assumption)) (by omega) _) | exact SK.out _ (low_set (held_low (by assumption)) 5 _) | exact SK.out _ (low_set_drew (held_low (by assumption)) 5 _))
          (first
            | (refine step_append_ints rfl (.tmp 55) (.tmp 60) rfl wx.heap.size _ 0 [] rfl (by first | exact owns_drew (made_row (Nat.le_refl _) (by omega) HMC.out) | exact owns_drew ((made_row (Nat.le_refl _) (by omega) HMC.out).alloc _) | exact owns_drew (made_row2 (by simp) (by simp) (by omega) HMC.out)) d.kA d.kc 0 w.heap.size d.k rfl (HKx.out.belowN ((held_low (by assumption)).to.mono (by omega))) hnl (by omega) (held_low (by assumption)).to.size ?_; intro v1 w2 hown1 hgrow1 hbel1; rw [Nat.zero_add, List.nil_append] at hown1; have hB2 : Below wx.heap.size wx w2 := Below.trans (by first | exact below_drew ((Below.refl _ wx).alloc (Nat.le_refl _) _) | exact below_drew (((Below.refl _ wx).alloc (Nat.le_refl _) _).alloc (by simp) _)) hbel1; have hS2 := SK.out w2 (hB2.mono (by omega)))
            | (refine step_append_ints rfl (.tmp 61) (.tmp 62) rfl wx.heap.size _ d.k.length (iv d.k) rfl (by first | exact hown1 | exact hown1.alloc _ | exact owns_drew (hown1.alloc _)) _ 1 _ _ [99] rfl (one_LRd (by first | exact cell_alloc_new _ _ _ | (refine World.grownBy.cell hgrow1 ?_ ?_ <;> first | (show some _ ≠ Value.ownBlock (Value.slice _ _ _); simp [Value.ownBlock]; done) | (simp; done)))) (fun e => by cases e) (by simp; omega) (held_low (by assumption)).to.size ?_; intro v3 w3 hown3 hgrow3 hbel3; have hB3 : Below wx.heap.size wx w3 := Below.trans (by first | exact hB2 | exact hB2.alloc hB2.size _ | exact below_drew (hB2.alloc hB2.size _)) hbel3; have hS3 := SK.out w3 (hB3.mono (by omega)); have x5 : w3.cell? ⟨wr.heap.size, 5, none⟩ = some (.slice d.kA d.k.length d.kc) := (hB3.cell (p := ⟨wr.heap.size, 5, none⟩) hxl).trans (HX.out.cell 5); have xf : w3.frozen? ⟨wr.heap.size, 5, none⟩ = false := (World.frozen?_of_block (hB3.block wr.heap.size hxl)).trans (HX.out.frozen 5); rw [show d.k.length + [(99 : Int)].length = d.k.length + 1 from rfl] at hown3; obtain ⟨M, o1, c1, rfl, hM0, hM1, hM2, hM3, hM4, hM5⟩ := own_cells hown3 (Nat.succ_pos _); have hsl := ints_head (some ⟨M, o1, none⟩) (d.k.length + 1) c1 d.k.length (by omega)))
        all_goals
          go_wp2_with fail
          go_meet
          exact HEND.out w3 M o1 c1 hB3 hM0 hM1 hM2 hown3
      case rest =>
        obtain ⟨M, o1, c1, hA, ho1, hc1, hc1m, hM, hTy⟩ := hcut
        clear hms HMC MC SK S1 S2
        have hc19 : c1 ≤ 9223372036854775807 := by unfold maxLen at hc1m; omega
        have hsc := hTy.size
        have hMlt := hM.lt M rfl
        have f4c := f4x.apart hTy (fun b hb e => by have := hFl b hb; omega)
        have f5c := f5x.apart hTy (fun b hb e => by have := hGl b hb; omega)
        have HBc : Hid (Below N w1 wc) := Lib.hid (hBx.trans (hTy.below (by omega) (fun i e => by omega)))
        have D0 : DuoR F G wc (N + 1) rb s s wc := DuoR.start f4c f5c f3
        have hD0 : Hid (DuoR F G wc (N + 1) rb s s wc.drew) := Lib.hid (D0.move (below_drew (Below.refl _ _)))
        have hnF : ∀ b, F b ∨ G b → N ≤ b ∧ b < wr.heap.size := fun b hb => hb.elim (fun h => ⟨f1 b h, hFl b h⟩) (fun h => ⟨f2 b h, hGl b h⟩)
        have HTY := Lib.hid hTy
        have HA := Lib.hid hA
        have HM := Lib.hid hM
        have HST := Lib.hid hst
        have SK : Hid (∀ W, Turned (fun b => F b ∨ G b) wc W →
            (W.cell? ⟨b, off + i * 6, none⟩ = some (.int .u8 d.what) ∧ W.cell? ⟨b, off + i * 6 + 1, none⟩ = some (.string d.a) ∧ W.cell? ⟨b, off + i * 6 + 2, none⟩ = some (.string d.b) ∧ W.cell? ⟨b, off + i * 6 + 3, none⟩ = some (.string d.t) ∧
             W.cell? ⟨b, off + i * 6 + 4, none⟩ = some (.int .i64 d.n) ∧ W.cell? ⟨b, off + i * 6 + 5, none⟩ = some (.slice d.kA d.k.length d.kc)) ∧
            (W.cell? ⟨wr.heap.size, 0, none⟩ = some (.int .u8 d.what) ∧ W.cell? ⟨wr.heap.size, 1, none⟩ = some (.string d.a) ∧ W.cell? ⟨wr.heap.size, 2, none⟩ = some (.string d.b) ∧ W.cell? ⟨wr.heap.size, 3, none⟩ = some (.string d.t) ∧
             W.cell? ⟨wr.heap.size, 4, none⟩ = some (.int .i64 d.n) ∧ W.cell? ⟨wr.heap.size, 5, none⟩ = some (.slice (some ⟨M, o1, none⟩) d.k.length c1)) ∧
            W.cell? ⟨M, o1 + d.k.length, none⟩ = some (.int .i64 99)) := Lib.hid (fun W hW => by
          have hBW : Below N w1 W := HBc.out.trans ((hW.below (show N ≤ wc.heap.size by omega) (fun i hi => (hnF i hi).1)))
          have hDW := HDn.out.belowN (hBW.mono (show w.heap.size ≤ N by omega))
          obtain ⟨b', off', e, hb', k0, k1, k2, k3, k4, k5⟩ := hDW.at HDD.out
          injection e with e
          injection e with e1 e2 _
          subst e1 e2
          have hAW := hW.at HA.out (fun h => by have := (hnF _ h).2; omega)
          obtain ⟨g', o', c', hv, _, _, _, hgl, hcc, _⟩ := own_cells (own_same (w' := W) HM.out (fun b hb => hW.block b (HM.out.lt b hb).2 (fun h => by have := (hnF _ h).2; have := (HM.out.lt b hb).1; omega))) (Nat.succ_pos _)
          injection hv with hv
          injection hv with hv
          injection hv with hv1 hv2
          subst hv1 hv2
          exact ⟨⟨k0, k1, k2, k3, k4, k5⟩, ⟨hAW.cell 0, hAW.cell 1, hAW.cell 2, hAW.cell 3, hAW.cell 4, hAW.cell 5⟩, hcc d.k.length _ (by simp [iv])⟩)
        have hMk : Hid (∀ W, Turned (fun b => F b ∨ G b) wc W → LRd W M (M + 1) (some ⟨M, o1, none⟩) (iv d.k)) := Lib.hid (fun W hW h0 => by
          obtain ⟨g', o', c', hv, _, _, _, hgl, hcc, _⟩ := own_cells (own_same (w' := W) HM.out (fun b hb => hW.block b (HM.out.lt b hb).2 (fun h => by have := (hnF _ h).2; have := (HM.out.lt b hb).1; omega))) (Nat.succ_pos _)
          injection hv with hv
          injection hv with hv
          injection hv with hv1 hv2
          subst hv1 hv2
          refine ⟨M, o1, rfl, Nat.le_refl _, Nat.lt_succ_self _, fun j u hj => hcc j u ?_⟩
          rw [show iv (d.k ++ [99]) = iv d.k ++ iv [99] by simp [iv], List.getElem?_append_left (List.getElem?_eq_some_iff.1 hj).1]
          exact hj)
        have hLk : Hid (∀ W, Turned (fun b => F b ∨ G b) wc W → LRd W 0 w.heap.size d.kA (iv d.k)) := Lib.hid (fun W hW => by
          have hBW : Below N w1 W := HBc.out.trans ((hW.below (show N ≤ wc.heap.size by omega) (fun i hi => (hnF i hi).1)))
          exact (HDn.out.belowN (hBW.mono (show w.heap.size ≤ N by omega))).lists d (List.mem_of_getElem? HDD.out))
        have hMo : ∀ b, F b ∨ G b ∨ wc.heap.size ≤ b → b < M ∨ M + 1 ≤ b := fun b hb => by
          rcases hb with hb | hb | hb
          · have := hFl b hb; have := hMlt.1; omega
          · have := hGl b hb; have := hMlt.1; omega
          · have := hMlt.2; omega
        have hst' : s.starts ≤ 1000 := by omega
        have E1 : Hid (∀ W, DuoR F G wc (N + 1) rb s s W → Calls Try.prog 12 #[.pointer (some ⟨N + 1, 0, none⟩), .agg #[.int .u8 d.what, .string d.a, .string d.b, .string d.t, .int .i64 d.n, .slice (some ⟨M, o1, none⟩) d.k.length c1]] W fun e w' => e = .returned (.int .i64 (step s d).1) ∧ DuoR F G wc (N + 1) rb (step s d).2 s w') := Lib.hid (fun W hW =>
          with_duoR (⟨d.what, d.a, d.b, d.t, d.n, some ⟨M, o1, none⟩, c1, d.k⟩ : Dt) M (M + 1) ⟨HOK.out.what, HOK.out.a, HOK.out.b, HOK.out.t, HOK.out.n1, HOK.out.n2, by show d.k.length ≤ c1; omega, hc1m⟩ (hMk.out W hW.1) (fun b hb => hMo b (hb.imp id .inr)) (by omega) hW)
        have E2 : Hid (∀ W, DuoR F G wc (N + 1) rb (step s d).2 s W → Calls Try.prog 13 #[.pointer (some ⟨rb, 0, none⟩), .agg #[.int .u8 d.what, .string d.a, .string d.b, .string d.t, .int .i64 d.n, .slice d.kA d.k.length d.kc]] W fun e w' => e = .returned (.int .i64 (step s d).1) ∧ DuoR F G wc (N + 1) rb (step s d).2 (step s d).2 w') := Lib.hid (fun W hW =>
          by_duoR d 0 w.heap.size HOK.out (hLk.out W hW.1) (fun b hb => .inr (hb.elim (fun h => by have := f2 b h; omega) (fun h => by omega))) (by omega) (by have := h4t.out; omega) (by omega) hnl hW)
        have E3 : Hid (∀ W, DuoR F G wc (N + 1) rb (step s d).2 (step s d).2 W → Calls Try.prog 14 #[.slice (some ⟨M, o1, none⟩) d.k.length c1, .slice d.kA d.k.length d.kc] W fun e w' => e = .returned (.bool true) ∧ DuoR F G wc (N + 1) rb (step s d).2 (step s d).2 w') := Lib.hid (fun W hW =>
          (num_yes (some ⟨M, o1, none⟩) d.kA c1 d.kc d.k.length M (M + 1) 0 w.heap.size d.k W rfl (by omega) (hMk.out W hW.1) (hLk.out W hW.1)).mono fun e w' ⟨he, hB⟩ => ⟨he, hW.move hB⟩)
        have E4 : Hid (∀ W, DuoR F G wc (N + 1) rb (step s d).2 (step s d).2 W → Calls Try.prog 15 #[.pointer (some ⟨N + 1, 0, none⟩), .pointer (some ⟨rb, 0, none⟩)] W fun e w' => e = .returned (.bool true) ∧ DuoR F G wc (N + 1) rb (step s d).2 (step s d).2 w') := Lib.hid (fun W hW =>
          (one_duoR hW).mono fun e w' ⟨he, h1, h2⟩ => ⟨he, h1⟩)
        have HS2 : Hid ((step s d).2.starts ≤ i + 1) := Lib.hid (by have := step_starts_le s d; omega)
        have hS0 := SK.out wc.drew (hD0.out.1)
        clear D0 f4c f5c hA hM hTy hst f4x f5x hX
        generalize (step s d).1 = z at *
        generalize (step s d).2 = s2 at *
        have hzz : (z != z) = false := by simp
        have h99 : ((99 : Int) != 99) = false := by decide
        have hsl := ints_head (some ⟨M, o1, none⟩) d.k.length c1 (d.k.length + 1) (by omega)
        rw [show ((d.k.length + 1 : Nat) : Int) = (d.k.length : Int) + 1 by omega] at hsl
        have hki : (d.k.length : Int) < (d.k.length : Int) + 1 := by omega
        generalize hkk : d.k.length = kl at *
        have HKK := Lib.hid hkk
        clear hkk
        generalize d.what = xw at *
        generalize d.a = xa at *
        generalize d.b = xb at *
        generalize d.t = xt at *
        generalize d.n = xn at *
        generalize d.kA = xA at *
        generalize d.kc = xc at *
        obtain ⟨⟨i0', i1, i2, i3, i4, i5⟩, ⟨j0, j1, j2, j3, j4, j5⟩, l0⟩ := hS0
        go_wp2_with fail
        go_region_held3 (fun W => (W.cell? ⟨b, off + i * 6, none⟩ = some (.int .u8 xw) ∧ W.cell? ⟨b, off + i * 6 + 1, none⟩ = some (.string xa) ∧ W.cell? ⟨b, off + i * 6 + 2, none⟩ = some (.string xb) ∧ W.cell? ⟨b, off + i * 6 + 3, none⟩ = some (.string xt) ∧
             W.cell? ⟨b, off + i * 6 + 4, none⟩ = some (.int .i64 xn) ∧ W.cell? ⟨b, off + i * 6 + 5, none⟩ = some (.slice xA kl xc)) ∧
            (W.cell? ⟨wr.heap.size, 0, none⟩ = some (.int .u8 xw) ∧ W.cell? ⟨wr.heap.size, 1, none⟩ = some (.string xa) ∧ W.cell? ⟨wr.heap.size, 2, none⟩ = some (.string xb) ∧ W.cell? ⟨wr.heap.size, 3, none⟩ = some (.string xt) ∧
             W.cell? ⟨wr.heap.size, 4, none⟩ = some (.int .i64 xn) ∧ W.cell? ⟨wr.heap.size, 5, none⟩ = some (.slice (some ⟨M, o1, none⟩) kl c1)) ∧
            W.cell? ⟨M, o1 + kl, none⟩ = some (.int .i64 99)) (first | assumption | exact ⟨⟨by assumption, by assumption, by assumption, by assumption, by assumption, by assumption⟩, ⟨by assumption, by assumption, by assumption, by assumption, by assumption, by assumption⟩, by assumption⟩)
          (first
            | (go_at_call 12; refine (E1.out _ hD0.out).mono ?_; rintro e w2 ⟨rfl, hD1⟩; have hS1 := SK.out w2 hD1.1)
            | (go_at_call 13; refine (E2.out _ hD1).mono ?_; rintro e w3 ⟨rfl, hD2⟩; have hS2 := SK.out w3 hD2.1)
            | (go_at_call 14; refine (E3.out _ hD2).mono ?_; rintro e w4 ⟨rfl, hD3⟩; have hS3 := SK.out w4 hD3.1)
            | (go_at_call 15; refine (E4.out _ hD3).mono ?_; rintro e w5 ⟨rfl, hD4⟩; have hS4 := SK.out w5 hD4.1))
        obtain ⟨hT5, F5, G5, y1, y2, y3, y4, y5⟩ := hD4
        have hs5 := hT5.size
        have HA5 := Lib.hid (hT5.at HA.out (fun h => by have := (hnF _ h).2; omega))
        have hM5 : w5.ownsRow 0 3 1 (.slice (some ⟨M, o1, none⟩) (kl + 1) c1) (kl + 1) (iv (d.k ++ [99])) := own_base (own_same (w' := w5) HM.out (fun b hb => hT5.block b (HM.out.lt b hb).2 (fun h => by have := (hnF _ h).2; have := (HM.out.lt b hb).1; omega)))
        have HB5 : Hid (Below N w1 w5) := Lib.hid (HBc.out.trans (hT5.below (show N ≤ wc.heap.size by omega) (fun i hi => (hnF i hi).1)))
        have hM1 := hMlt.1
        have hM2 := hMlt.2
        have y6 : Hid (∀ b, F5 b → b ≠ M) := Lib.hid (fun b hb e => by
          rcases y1 b hb with h | h
          · have := hFl b h; omega
          · omega)
        have y7 : Hid (∀ b, G5 b → b ≠ M) := Lib.hid (fun b hb e => by
          rcases y2 b hb with h | h
          · have := hGl b h; omega
          · omega)
        have y8 : Hid (∀ b, F5 b → N ≤ b) := Lib.hid (fun b hb => (y1 b hb).elim (f1 b) (fun h => by omega))
        have y9 : Hid (∀ b, G5 b → N ≤ b) := Lib.hid (fun b hb => (y2 b hb).elim (f2 b) (fun h => by omega))
        have Y3 := Lib.hid y3
        have Y4 := Lib.hid y4
        have Y5 := Lib.hid y5
        have hXM : wr.heap.size ≠ M := by omega
        have hNM : N ≤ M := by omega
        have hN5 : N ≤ w5.heap.size := by omega
        clear y1 y2 y3 y4 y5 hT5 hMo hnF i0' i1 i2 i3 i4 i5 j0 j1 j2 j3 j4 j5 l0 hFl hGl f1 f2 f3 hS1 hS2 hS3 hS4 hD1 hD2 hD3
        generalize wr.heap.size = X at *
        have HA5' : At w5 X 33 #[.int .u8 xw, .string xa, .string xb, .string xt, .int .i64 xn, .slice (some ⟨M, o1, none⟩) kl c1] := HA5.out
        have x50 : w5.cell? ⟨X, 5, none⟩ = some (.slice (some ⟨M, o1, none⟩) kl c1) := HA5'.cell 5
        have HA6 := Lib.hid HA5'
        clear HA5'
        go_wp2
        go_loopg [11] kl (fun g s11 wq => ∃ (q : Nat) (xs : List Value), s11 = .int .i64 q ∧ q ≤ kl ∧ kl - q ≤ g ∧ wq.ownsRow 0 3 1 (.slice (some ⟨M, o1, none⟩) (kl + 1) c1) (kl + 1) xs ∧ Turned (fun b => b = M) w5 wq)
        case atStart => exact ⟨0, _, rfl, Nat.zero_le _, by omega, hM5, .refl _ _⟩
        case round =>
          obtain ⟨q, xs, rfl, hq, hgq, hrow, hTq⟩ := hrel
          have x5 : wr.cell? ⟨X, 5, none⟩ = some (.slice (some ⟨M, o1, none⟩) kl c1) := (hTq.at HA6.out hXM).cell 5
          by_cases hqk : q < kl
          · obtain ⟨vq, m0, m1⟩ : ∃ vq, wr.cell? ⟨M, o1 + q, none⟩ = some vq ∧ wr.frozen? ⟨M, o1 + q, none⟩ = false := by
              have hxl := hrow.1
              obtain ⟨g', o', c', hv, ho', _, _, hgl', hcc, hfr⟩ := own_cells hrow (Nat.succ_pos _)
              injection hv with hv
              injection hv with hv
              injection hv with hv1 hv2
              subst hv1 hv2
              obtain ⟨vq, hvq⟩ : ∃ vq, xs[q]? = some vq := ⟨xs[q]'(by omega), List.getElem?_eq_getElem _⟩
              exact ⟨vq, hcc q vq hvq, hfr q⟩
            have HR := Lib.hid hrow
            have HT := Lib.hid hTq
            clear hrow hTq
            go_wp2
            go_roundg (kl - (q + 1))
            case measure => omega
            case rel => exact ⟨q + 1, xs.set (o1 + q) (.int .i64 7), by go_num, by omega, by omega, own_set HR.out (g := M) rfl (o1 + q) _, HT.out.setCell (p := ⟨M, o1 + q, none⟩) (.inl rfl) _⟩
          · obtain rfl : q = kl := by omega
            have HBo : Hid (BothR N w1 (N + 1) rb s2 wr) := Lib.hid ⟨HB5.out.trans (hTq.below hN5 (fun i e => by omega)), F5, G5, y8.out, y9.out, Y3.out, Y4.out.apart hTq y6.out, Y5.out.apart hTq y7.out⟩
            clear hrow hTq
            go_wp2
            go_roundg (n - (i + 1))
            case measure => omega
            case rel => exact ⟨i + 1, s2, by go_num, by omega, by omega, HBo.out, HS2.out⟩
    · have HBe : Below w.heap.size w wr := HBW.out.trans (hBn.mono (show w.heap.size ≤ N by omega))
      clear hBn f4 f5 f1 f2 f3 HDr
      go_wp2_with fail
      go_at_call 16
      refine (hdoes.out _).mono ?_
      rintro e w9 ⟨rfl, o4⟩
      go_wp2
      go_ret
      exact ⟨rfl, HBe.trans (o4.mono HBe.size)⟩
end Go.Proofs.Ytpdegpppeepphaa.fil
