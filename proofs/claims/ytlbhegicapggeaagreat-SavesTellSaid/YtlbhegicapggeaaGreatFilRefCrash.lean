/- Files: the document's own system: a crash; a stroke that may fail. -/
import Derived.Test.YtlbhegicapggeaaGreatFilRefLess
namespace Go.Proofs.YtlbhegicapggeaaGreat.fil
open Go.RowKit Go.Lib Go.Maps Go.WideMaps
set_option linter.unusedVariables false
set_option linter.unusedSimpArgs false
set_option linter.unnecessarySimpa false
set_option linter.unusedSectionVars false

/-- The files while a crash goes through them. -/
def mix (ks : List Int) (l : List Fl) (i : Nat) : List Fl := (lose ks l).take i ++ l.drop i
theorem mix_length (ks : List Int) (l : List Fl) (i : Nat) : (mix ks l i).length = l.length := by
  unfold mix
  rw [List.length_append, List.length_take, List.length_drop, lose_length]; omega
theorem mix_zero (ks : List Int) (l : List Fl) : mix ks l 0 = l := by simp [mix]
theorem mix_all (ks : List Int) (l : List Fl) (i : Nat) (h : l.length ≤ i) : mix ks l i = lose ks l := by
  unfold mix
  rw [List.take_of_length_le (by rw [lose_length]; exact h), List.drop_eq_nil_of_le h, List.append_nil]
theorem mix_get (ks : List Int) (l : List Fl) (i : Nat) (x : Fl) (hx : l[i]? = some x) : (mix ks l i)[i]? = some x := by
  have hi := (List.getElem?_eq_some_iff.1 hx).1
  unfold mix
  rw [List.getElem?_append_right (by rw [List.length_take, lose_length]; omega), List.length_take, lose_length, Nat.min_eq_left (by omega), Nat.sub_self, List.getElem?_drop]
  exact hx
theorem mix_succ (ks : List Int) (l : List Fl) (i : Nat) (x : Fl) (hx : l[i]? = some x) : mix ks l (i + 1) = (mix ks l i).set i (cut1 (ks.getD i 0) x) := by
  have hi := (List.getElem?_eq_some_iff.1 hx).1
  have hl : (lose ks l)[i]? = some (cut1 (ks.getD i 0) x) := by rw [lose_get, hx]; rfl
  have hti : ((lose ks l).take i).length = i := by rw [List.length_take, lose_length]; omega
  have hd : l.drop i = x :: l.drop (i + 1) := by
    rw [List.drop_eq_getElem_cons hi]
    congr 1
    exact (List.getElem?_eq_some_iff.1 hx).2
  unfold mix
  rw [List.take_add_one, hl, hd, List.set_append_right _ _ (by omega), hti, Nat.sub_self, List.set_cons_zero]
  simp

section
variable {q : Bool} {w w' : World} {rb : Nat} {s s' : St} {v kv : Value} {z : Int} {fl : Bool} {F F' : Nat → Prop}
set_option maxHeartbeats 4000000 in
set_option maxRecDepth 100000 in
theorem refCrash_is (A : Option Addr) (c lo hi : Nat) (ks : List Int) (w : World) (hkl : ks.length ≤ 9223372036854775807) (hk : LRd w lo hi A (iv ks)) (hon : s.off = false) (h : RFz q w rb s v kv z fl F)
    (hvk : ∀ g, v.ownBlock = some g → g < lo ∨ hi ≤ g) (hrk : rb < lo ∨ hi ≤ rb) :
    Calls Tryz.prog 42 #[.pointer (some ⟨rb, 0, none⟩), .slice A ks.length c] w fun e w' => e = .returned (.int .i64 0) ∧ RWent F rb (crash ks s) w w' := by
  have hfew := h.ok.few
  have hroom : total s.files ≤ 1048576 := Nat.le_trans h.ok.room h.ok.cap2
  have HP := Lib.hid h.ok.plat
  obtain ⟨c0, c1, c2, c3, c4, c5, c6⟩ := h.cells
  rw [hon] at c2
  have f2 := h.frozen 2
  have f3 := h.frozen 3
  have HK := Lib.hid hk
  have HVK := Lib.hid hvk
  have HNE : Hid (v.ownBlock ≠ some rb) := Lib.hid (own_ne h.row h.head (by decide))
  have HAT : Hid (At ((w.setCell ⟨rb, 2, none⟩ (.bool true)).setCell ⟨rb, 3, none⟩ (.bool false)) rb 53 #[.int .i64 s.cap, .int .i64 s.starts, .bool true, .bool false, v, .int .i64 z, kv]) := Lib.hid (At.set (At.set h.head 2 (.bool true)) 3 (.bool false))
  have HTU : Hid (Turned (fun b => v.ownBlock = some b ∨ b = rb) w ((w.setCell ⟨rb, 2, none⟩ (.bool true)).setCell ⟨rb, 3, none⟩ (.bool false))) := Lib.hid (((Turned.refl _ w).setCell (.inl (.inr rfl)) _).setCell (.inl (.inr rfl)) _)
  have HRW : Hid (((w.setCell ⟨rb, 2, none⟩ (.bool true)).setCell ⟨rb, 3, none⟩ (.bool false)).ownsRow 0 77 3 v s.files.length (fv s.files)) := Lib.hid (own_same h.row (fun b hb => by
    have hne : b ≠ rb := fun e => own_ne h.row h.head (by decide) (by rw [← e]; exact hb)
    exact (Below.heap_setCell _ ⟨rb, 3, none⟩ _ b hne).trans (Below.heap_setCell _ ⟨rb, 2, none⟩ _ b hne)))
  have HEND : Hid (∀ W, At W rb 53 #[.int .i64 s.cap, .int .i64 s.starts, .bool true, .bool false, v, .int .i64 z, kv] → W.ownsRow 0 77 3 v s.files.length (fv (lose ks s.files)) → Turned (fun b => v.ownBlock = some b ∨ b = rb) w W → RWent F rb (crash ks s) w W) := Lib.hid (fun W h1 h2 h3 => by
    refine ⟨h3.mono (fun b hb => hb.elim (h.rowF b) (fun e => by rw [e]; exact h.mine)), F, fun b hb => .inl hb, v, kv, z, false, ok_crash h.ok ks h.ok.f, h1, ?_, h.rowF, fun _ => rfl, h.mine, fun b hb => Nat.lt_of_lt_of_le (h.lt b hb) h3.size⟩
    show W.ownsRow 0 _ 3 v (lose ks s.files).length (fv (lose ks s.files))
    rw [lose_length]; exact h2)
  obtain ⟨VA, vc, rfl⟩ : ∃ A cc, v = .slice A s.files.length cc := by
    rcases h.row.2 with ⟨hv, h0⟩ | ⟨b, cap, _, hv, _⟩
    · exact ⟨none, 0, by rw [hv, h0]⟩
    · exact ⟨_, _, hv⟩
  have hkm : ks.length = ks.length := rfl
  generalize hm : ks.length = m at hkm hkl ⊢
  have HM := Lib.hid hm
  clear h hon hk hvk hkm hm
  generalize hl : s.files = l at *
  clear hl
  generalize hll : l.length = n at *
  have HL := Lib.hid hll
  clear hll
  go_enter Tryz.func42, Tryz.ntmps42
  go_wp2
  go_loopg [5] n (fun g s5 wr => ∃ i : Nat, s5 = .int .i64 i ∧ i ≤ n ∧ n - i ≤ g ∧ At wr rb 53 #[.int .i64 s.cap, .int .i64 s.starts, .bool true, .bool false, .slice VA n vc, .int .i64 z, kv] ∧ wr.ownsRow 0 77 3 (.slice VA n vc) n (fv (mix ks l i)) ∧ Turned (fun b => (Value.slice VA n vc).ownBlock = some b ∨ b = rb) w wr)
  case atStart => exact ⟨0, rfl, Nat.zero_le _, by omega, HAT.out, by rw [mix_zero]; exact HRW.out, HTU.out⟩
  case round =>
    obtain ⟨i, rfl, hi, hg, hA, hR, hT⟩ := hrel
    clear c0 c1 c2 c3 c4 c5 c6 f2 f3
    have c4 : wr.cell? ⟨rb, 4, none⟩ = some (.slice VA n vc) := hA.cell 4
    by_cases hlt : i < n
    · obtain ⟨x, hx⟩ : ∃ x, l[i]? = some x := ⟨l[i]'(by rw [HL.out]; exact hlt), List.getElem?_eq_getElem _⟩
      have hpl := HP.out x (List.mem_of_getElem? hx)
      have hxl := total_mem (List.mem_of_getElem? hx)
      have hxm := mix_get ks l i x hx
      obtain ⟨g, off, c', hVA, h0, hc1, hc2, hgl, hcell, hfr⟩ := own_cells hR (by omega)
      injection hVA with hVA _ hcc
      subst hVA
      subst hcc
      have q1 : wr.cell? ⟨g, off + i * 3 + 1, none⟩ = some (.string (B x.bytes)) := by rw [Nat.add_assoc]; exact hcell (i * 3 + 1) _ ((fv_get _ i 1 x hxm (by omega)).trans rfl)
      have q2 : wr.cell? ⟨g, off + i * 3 + 2, none⟩ = some (.int .i64 x.plat) := by rw [Nat.add_assoc]; exact hcell (i * 3 + 2) _ ((fv_get _ i 2 x hxm (by omega)).trans rfl)
      have r1 : wr.frozen? ⟨g, off + i * 3 + 1, none⟩ = false := by rw [Nat.add_assoc]; exact hfr _
      have r2 : wr.frozen? ⟨g, off + i * 3 + 2, none⟩ = false := by rw [Nat.add_assoc]; exact hfr _
      have hvc9 : vc ≤ 9223372036854775807 := by unfold maxLen at hc2; omega
      have hgrb : g ≠ rb := fun e => HNE.out (by rw [← e]; rfl)
      have hsb : (B x.bytes).size = x.bytes.length := B_size _
      have hkl2 := keepN_le (k := ks.getD i 0) hpl
      have hke : keepN (ks.getD i 0) x = x.plat + min (ks.getD i 0).toNat (x.bytes.length - x.plat) := rfl
      have SL := front_slice (B x.bytes) (keepN (ks.getD i 0) x) (by rw [hsb]; exact hkl2)
      rw [list_B] at SL
      have HEN : Hid (∀ W, At W rb 53 #[.int .i64 s.cap, .int .i64 s.starts, .bool true, .bool false, .slice (some ⟨g, off, none⟩) n vc, .int .i64 z, kv] → W.ownsRow 0 77 3 (.slice (some ⟨g, off, none⟩) n vc) n (fv (mix ks l i)) → Turned (fun b => (Value.slice (some ⟨g, off, none⟩) n vc).ownBlock = some b ∨ b = rb) w W →
          At ((W.setCell ⟨g, off + i * 3 + 1, none⟩ (.string (B (x.bytes.take (keepN (ks.getD i 0) x))))).setCell ⟨g, off + i * 3 + 2, none⟩ (.int .i64 (keepN (ks.getD i 0) x))) rb 53 #[.int .i64 s.cap, .int .i64 s.starts, .bool true, .bool false, .slice (some ⟨g, off, none⟩) n vc, .int .i64 z, kv] ∧
          ((W.setCell ⟨g, off + i * 3 + 1, none⟩ (.string (B (x.bytes.take (keepN (ks.getD i 0) x))))).setCell ⟨g, off + i * 3 + 2, none⟩ (.int .i64 (keepN (ks.getD i 0) x))).ownsRow 0 77 3 (.slice (some ⟨g, off, none⟩) n vc) n (fv (mix ks l (i + 1))) ∧
          Turned (fun b => (Value.slice (some ⟨g, off, none⟩) n vc).ownBlock = some b ∨ b = rb) w ((W.setCell ⟨g, off + i * 3 + 1, none⟩ (.string (B (x.bytes.take (keepN (ks.getD i 0) x))))).setCell ⟨g, off + i * 3 + 2, none⟩ (.int .i64 (keepN (ks.getD i 0) x)))) := Lib.hid (fun W k1 k2 k3 => by
        refine ⟨(k1.far (p := ⟨g, off + i * 3 + 1, none⟩) (Ne.symm hgrb) _).far (p := ⟨g, off + i * 3 + 2, none⟩) (Ne.symm hgrb) _, ?_, (k3.setCell (p := ⟨g, off + i * 3 + 1, none⟩) (.inl (.inl rfl)) _).setCell (p := ⟨g, off + i * 3 + 2, none⟩) (.inl (.inl rfl)) _⟩
        have hml : (mix ks l i).length = n := (mix_length ks l i).trans HL.out
        have o1 := own_put (l := mix ks l i) (i := i) (j := 1) (x := x) (y := ⟨x.name, x.bytes.take (keepN (ks.getD i 0) x), x.plat⟩) (u := .string (B (x.bytes.take (keepN (ks.getD i 0) x)))) (by rw [hml]; exact k2) h0 hxm (by omega) rfl
        have hx2 : ((mix ks l i).set i ⟨x.name, x.bytes.take (keepN (ks.getD i 0) x), x.plat⟩)[i]? = some ⟨x.name, x.bytes.take (keepN (ks.getD i 0) x), x.plat⟩ := List.getElem?_set_self (by omega)
        have o2 := own_put (i := i) (j := 2) (y := cut1 (ks.getD i 0) x) (u := .int .i64 (keepN (ks.getD i 0) x)) o1 h0 hx2 (by omega) rfl
        rw [List.set_set, ← mix_succ ks l i x hx, mix_length, HL.out] at o2
        exact o2)
      have HKC : Hid (i < m → ∃ bk ok, A = some ⟨bk, ok, none⟩ ∧ wr.cell? ⟨bk, ok + i, none⟩ = some (.int .i64 (ks.getD i 0))) := Lib.hid (fun him => by
        obtain ⟨bk, ok, e, hck⟩ := (HK.out.turned hT (fun b hb => hb.elim (HVK.out b) (fun e => by rw [e]; exact hrk))).ints (by rw [HM.out]; omega)
        exact ⟨bk, ok, e, hck i (by rw [HM.out]; exact him)⟩)
      have hkd : Hid (m ≤ i → ks.getD i 0 = 0) := Lib.hid (fun him => by simp [List.getD, List.getElem?_eq_none (show ks.length ≤ i by rw [HM.out]; exact him)])
      have HA := Lib.hid hA
      have HR := Lib.hid hR
      have HT := Lib.hid hT
      clear hA hR hT hcell hfr hx hxm
      generalize hN : keepN (ks.getD i 0) x = N at *
      generalize ha : x.bytes.length - x.plat = a at *
      generalize x.bytes.length = bl at *
      generalize x.plat = p at *
      generalize ks.getD i 0 = kk at *
      generalize x.bytes.take N = xt at *
      generalize B x.bytes = sb at *
      have HN := Lib.hid hN
      clear hN
      have hNs : N ≤ sb.size := by omega
      have hs9 : sb.size ≤ 1048576 := by omega
      have hN9 : N ≤ 1048576 := by omega
      have hp9 : p ≤ 1048576 := by omega
      have hw1 : IntKind.i64.wrap ((sb.size : Int) - (p : Int)) = (a : Int) := by rw [hsb]; rw [show ((bl : Int) - (p : Int)) = (a : Int) by omega]; exact IntWalk.i64_in _ (by omega)
      have ha9 : a ≤ 1048576 := by omega
      by_cases him : i < m
      · obtain ⟨bk, ok, rfl, q0⟩ := HKC.out him
        by_cases hkk : 0 < kk
        · have hw2 : IntKind.i64.wrap ((p : Int) + min kk (a : Int)) = (N : Int) := by rw [hke]; rw [show ((p : Int) + min kk (a : Int)) = ((p + min kk.toNat a : Nat) : Int) by omega]; exact IntWalk.i64_in _ (by omega)
          clear hsb hkl2 hke hpl hxl HKC ha
          go_wp2
          go_quiet (fail)
          go_wp2
          go_region
          all_goals
            go_wp2
            go_roundg (n - (i + 1))
            case measure => omega
            case rel =>
              obtain ⟨k1, k2, k3⟩ := HEN.out (wr.drewN _) HA.out HR.out (HT.out.drewN _)
              exact ⟨i + 1, by go_num, by omega, by omega, k1, k2, k3⟩
        · have hNp : N = p := by omega
          subst hNp
          clear hsb hkl2 hke hpl hxl HKC ha
          go_wp2
          go_region
          all_goals
            go_wp2
            go_roundg (n - (i + 1))
            case measure => omega
            case rel =>
              obtain ⟨k1, k2, k3⟩ := HEN.out (wr.drewN _) HA.out HR.out (HT.out.drewN _)
              exact ⟨i + 1, by go_num, by omega, by omega, k1, k2, k3⟩
      · have hk0 := hkd.out (by omega)
        subst hk0
        have hNp : N = p := by omega
        subst hNp
        clear hsb hkl2 hke hpl hxl HKC ha
        go_wp2
        go_region
        all_goals
          go_wp2
          go_roundg (n - (i + 1))
          case measure => omega
          case rel =>
            obtain ⟨k1, k2, k3⟩ := HEN.out (wr.drewN _) HA.out HR.out (HT.out.drewN _)
            exact ⟨i + 1, by go_num, by omega, by omega, k1, k2, k3⟩
    · obtain rfl : i = n := by omega
      rw [mix_all ks l i (by rw [HL.out]; exact Nat.le_refl _)] at hR
      have HZ := Lib.hid (HEND.out wr hA hR hT)
      clear hA hR hT
      go_wp2
      go_ret
      exact ⟨rfl, HZ.out⟩
end
end Go.Proofs.YtlbhegicapggeaaGreat.fil
