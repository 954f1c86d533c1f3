/- Files: Fail, Unsynced. -/
import Derived.Test.YtlbhegicapggeaaGreatFilCrash
import Derived.Maps.AppendAt
namespace Go.Proofs.YtlbhegicapggeaaGreat.fil
open Go.RowKit Go.Lib Go.Maps Go.WideMaps
set_option linter.unusedVariables false
set_option linter.unusedSimpArgs false
set_option linter.unnecessarySimpa false
set_option linter.unusedSectionVars false

/-- slices.Clone of any list of ints. -/
theorem clone_any (A : Option Addr) (n c lo hi : Nat) (ks : List Int) (w : World) (hn : n = ks.length) (hb : n * 8 ≤ 140737488355328) (hK : LRd w lo hi A (iv ks)) :
    Calls Tryz.prog 77 #[.slice A n c] w fun e w' => ∃ B d, e = .returned (.slice B n d) ∧ w'.ownsRow w.heap.size 3 1 (.slice B n d) n (iv ks) ∧ Below w.heap.size w w' := by
  subst hn
  by_cases h0 : 0 < ks.length
  · obtain ⟨b, off, rfl, _, _, hc⟩ := hK (by rw [iv_length]; exact h0)
    refine (Tryz.slices_Clone_int b off ks.length c ks w (Nat.le_refl _) hb (fun j hj => hc j _ (by simp [iv, List.getD, List.getElem?_eq_getElem hj]))).mono ?_
    rintro e w' ⟨v, rfl, hr, _, hB⟩
    rw [List.take_length] at hr
    obtain ⟨B, d, rfl⟩ := own_form hr
    exact ⟨B, d, rfl, hr, hB⟩
  · obtain rfl : ks = [] := List.eq_nil_of_length_eq_zero (by omega)
    rcases A with _ | a
    · refine (Tryz.slices_Clone_int_nil 0 c w).mono ?_
      rintro e w' ⟨rfl, rfl⟩
      exact ⟨none, 0, rfl, World.ownsRow_nil _ _ _ _, Below.refl _ _⟩
    · refine (Tryz.slices_Clone_int_zero a c w).mono ?_
      rintro e w' ⟨v, rfl, hr, _, hB⟩
      obtain ⟨B, d, rfl⟩ := own_form hr
      exact ⟨B, d, rfl, hr, hB⟩

section
variable {w w' : World} {F : Nat → Prop} {fb mb : Nat} {D : DataW Unit} {G : List Gf} {dp : Option Addr} {s : St}

theorem fail_no (p : Option Addr) (n : Int) (v : Value) (w : World) (h : NoFs w p) : Calls Tryz.prog 40 #[.pointer p, .int .i64 n, v] w fun e w' => e = .returned (.int .i64 1) ∧ w = w' := by
  have C := Lib.hid (useless_no p w h)
  clear h
  go_enter Tryz.func40, Tryz.ntmps40
  go_wp2_with (go_at_call 56; refine C.out.mono ?_; rintro e w' ⟨rfl, rfl⟩)
  go_ret
  exact ⟨rfl, rfl⟩

theorem set_inward (w : World) (o : Obj) {b i : Nat} {v : Value} (hb : b < w.heap.size) : (w.alloc o).setCell ⟨b, i, none⟩ v = (w.setCell ⟨b, i, none⟩ v).alloc o := by
  first | exact World.setCell_alloc_past _ _ _ _ _ hb | simp [go_sem, hb]

theorem fail_went {w w1 : World} {n : Nat} {ks : List Int} {B : Option Addr} {d : Nat} (h : Fs w fb mb D G dp s F) (hn : n ≤ 9223372036854775807) (hk : ks.length ≤ 32) (hB : Below w.heap.size w w1) (hr : w1.ownsRow w.heap.size 3 1 (.slice B ks.length d) ks.length (iv ks)) :
    Went F fb { s with due := some (n, ks) } w ((w1.alloc (.cells #[.int .i64 n, .slice B ks.length d] 88)).setCell ⟨fb, 4, none⟩ (.pointer (some ⟨w1.heap.size, 0, none⟩))) := by
  have hB2 : Below w1.heap.size w1 (w1.alloc (.cells #[.int .i64 n, .slice B ks.length d] 88)) := (Below.refl _ _).alloc (Nat.le_refl _) _
  have hA := At.new w1 88 #[.int .i64 n, .slice B ks.length d]
  generalize hW : w1.alloc (.cells #[.int .i64 n, .slice B ks.length d] 88) = W at *
  have h2 := (h.below hB).below hB2
  have hT : Turned (fun b => b = fb) W (W.setCell ⟨fb, 4, none⟩ (.pointer (some ⟨w1.heap.size, 0, none⟩))) := (Turned.refl (fun b => b = fb) W).setCell (p := ⟨fb, 4, none⟩) (.inl rfl) _
  have hTw : Turned F w (W.setCell ⟨fb, 4, none⟩ (.pointer (some ⟨w1.heap.size, 0, none⟩))) :=
    ((Turned.of_below hB F).then_below hB2).trans (hT.mono (F' := F) fun b e => by rw [e]; exact h.mineF) (fun b hb => .inl hb)
  have hr2 : W.ownsRow w.heap.size 3 1 (.slice B ks.length d) ks.length (iv ks) := own_same hr (fun b e => hB2.block b (hr.lt b e).2)
  refine ⟨hTw, Plus F w (W.setCell ⟨fb, 4, none⟩ (.pointer (some ⟨w1.heap.size, 0, none⟩))), fun b hb => hb.imp id fun h => h.1, mb, D, G, some ⟨w1.heap.size, 0, none⟩, ?_⟩
  refine h2.turnHead (s' := { s with due := some (n, ks) }) (fun b hb => .inl hb) (Plus.lt h hTw.size) (fun b t cs hA' ht => hT.block b hA'.lt (hA'.ne h2.head (by rcases ht with rfl | rfl <;> decide))) (hT.block mb h2.map.lt (Ne.symm h2.neMap))
    (At.set h2.head 4 _) rfl ?_ (h.ok.set h.ok.f _ _ _ (fun n' ks' e => by simp only [Option.some.injEq, Prod.mk.injEq] at e; obtain ⟨rfl, rfl⟩ := e; exact ⟨hn, hk⟩))
  have hz := hB.size
  have hz2 := hT.size
  refine ⟨w1.heap.size, _, _, rfl, hA.same (hT.block _ hA.lt (hA.ne h2.head (by decide))), .inr ⟨hz, Nat.lt_of_lt_of_le hA.lt hz2⟩, own_base (own_same hr2 (fun b e => ?_)), fun b e => ?_, fun _ => rfl⟩
  · obtain ⟨cs, hc⟩ := own_at hr2 e
    exact hT.block b hc.lt (hc.ne h2.head (by decide))
  · exact .inr ⟨(hr2.lt b e).1, Nat.lt_of_lt_of_le (hr2.lt b e).2 hz2⟩

set_option maxHeartbeats 1000000 in
set_option maxRecDepth 100000 in
theorem fail_is (A : Option Addr) (c lo hi : Nat) (n : Int) (ks : List Int) (w : World) (hkc : ks.length ≤ c) (hcm : c ≤ 9223372036854775807) (hnm : n ≤ 9223372036854775807) (hK : LRd w lo hi A (iv ks)) (h : IsFs w fb s F) :
    Calls Tryz.prog 40 #[.pointer (some ⟨fb, 0, none⟩), .int .i64 n, .slice A ks.length c] w fun e w' => e = .returned (.int .i64 (sFail s n ks).1) ∧ Went F fb (sFail s n ks).2 w w' := by
  have HS := Lib.hid h
  obtain ⟨mb, D, G, dp, h⟩ := h
  have C := Lib.hid (useless_is w h)
  unfold down at C
  unfold sFail
  by_cases ho : s.off = true
  · rw [if_pos ho] at C
    rw [if_pos ho]
    clear h hK
    go_enter Tryz.func40, Tryz.ntmps40
    go_wp2_with (go_at_call 56; refine C.out.mono ?_; rintro e w' ⟨rfl, rfl⟩)
    go_ret
    exact ⟨rfl, Wentz.refl HS.out⟩
  · rw [if_neg ho] at C
    rw [if_neg ho]
    by_cases hn : n < 0
    · rw [if_pos hn]
      clear h hK
      go_enter Tryz.func40, Tryz.ntmps40
      go_wp2_with (go_at_call 56; refine C.out.mono ?_; rintro e w' ⟨rfl, rfl⟩)
      go_ret
      exact ⟨rfl, Wentz.refl HS.out⟩
    · rw [if_neg hn]
      obtain ⟨k, rfl⟩ : ∃ k : Nat, n = k := ⟨n.toNat, by omega⟩
      obtain ⟨m, hm⟩ : ∃ m, m = (ks.take 32).length := ⟨_, rfl⟩
      have hm2 : m = min 32 ks.length := by rw [hm, List.length_take]
      have hmin : min (ks.length : Int) 32 = (m : Int) := by omega
      have hm32 : m ≤ 32 := by omega
      have hmc : m ≤ c := by omega
      have hml : m ≤ ks.length := by omega
      have hK2 : LRd w lo hi A (iv (ks.take 32)) := fun h0 => by
        obtain ⟨b, off, e, h1, h2, h3⟩ := hK (by rw [iv_length] at *; omega)
        refine ⟨b, off, e, h1, h2, fun j u hj => h3 j u ?_⟩
        rw [show iv (ks.take 32) = (iv ks).take 32 from by simp [iv], List.getElem?_take] at hj
        split at hj
        · exact hj
        · cases hj
      have CC := Lib.hid (clone_any A m c lo hi (ks.take 32) w hm (by omega) hK2)
      have c4 := h.cells.2.2.2.2.1
      have f4 := h.head.frozen 4
      have hfb := h.head.lt
      have HW : Hid (∀ w1 B d, Below w.heap.size w w1 → w1.ownsRow w.heap.size 3 1 (.slice B m d) m (iv (ks.take 32)) → Went F fb { s with due := some (k, ks.take 32) } w ((w1.setCell ⟨fb, 4, none⟩ (.pointer (some ⟨w1.heap.size, 0, none⟩))).alloc (.cells #[.int .i64 k, .slice B m d] 88)) ∧ w1.cell? ⟨fb, 4, none⟩ = some (.pointer dp) ∧ w1.frozen? ⟨fb, 4, none⟩ = false ∧ fb < w1.heap.size) :=
        Lib.hid fun w1 B d hB hr => ⟨by rw [← set_inward w1 _ (by have := hB.size; omega)]; rw [hm] at hr ⊢; exact fail_went h (by omega) (by omega) hB hr, (hB.cell (p := ⟨fb, 4, none⟩) hfb).trans c4, (hB.frozen (p := ⟨fb, 4, none⟩) hfb).trans f4, by have := hB.size; omega⟩
      have HM := Lib.hid hm
      clear h hK hK2 hm hm2 c4 f4 hfb
      simp only [Int.toNat_natCast]
      go_enter Tryz.func40, Tryz.ntmps40
      go_wp2_with (first | (go_at_call 56; refine C.out.mono ?_; rintro e w' ⟨rfl, rfl⟩) | (go_at_call 77; refine CC.out.mono ?_; rintro e w1 ⟨B, d, rfl, hr, hB⟩; obtain ⟨hW, q4, g4, qf⟩ := HW.out w1 B d hB hr))
      go_ret
      exact ⟨rfl, hW⟩

/-! ### Unsynced -/
def airOf (l : List Fl) : List Int := l.map fun x => ((x.bytes.length - x.plat : Nat) : Int)
theorem airOf_length (l : List Fl) : (airOf l).length = l.length := by simp [airOf]
set_option maxRecDepth 100000 in
theorem uns_no (p : Option Addr) (w : World) (h : NoFs w p) : Calls Tryz.prog 49 #[.pointer p] w fun e w' => e = .returned (.slice none 0 0) ∧ w = w' := by
  have C := Lib.hid (names_no p w h)
  clear h
  go_enter Tryz.func49, Tryz.ntmps49
  go_wp2_with (go_at_call 45; refine C.out.mono ?_; rintro e w' ⟨rfl, rfl⟩)
  refine wp_loop_rounds 1 ?_
  rw [rounds_succ]
  go_wp2
  go_ret
  exact ⟨rfl, rfl⟩

theorem own_base_le {w : World} {base base' e size n : Nat} {v : Value} {xs : List Value} (h : w.ownsRow base e size v n xs) (hb : base' ≤ base) : w.ownsRow base' e size v n xs := by
  refine ⟨h.1, ?_⟩
  rcases h.2 with h0 | ⟨g, cap, cur, rfl, hg, r⟩
  · exact .inl h0
  · exact .inr ⟨g, cap, cur, rfl, Nat.le_trans hb hg, r⟩
theorem info3 : (Tryz.prog.info? 3).map (fun i => (i.zero, i.size, i.bytes)) = some (some (.int .i64 0), 1, 8) := by kernel_rfl
set_option maxHeartbeats 2000000 in
set_option maxRecDepth 100000 in
theorem uns_is (w : World) (h : Fs w fb mb D G dp s F) :
    Calls Tryz.prog 49 #[.pointer (some ⟨fb, 0, none⟩)] w fun e w' => ∃ v, e = .returned v ∧ w'.ownsRow w.heap.size 3 1 v s.files.length (iv (airOf s.files)) ∧ Below w.heap.size w w' := by
  obtain ⟨i0, hi0, hz0, hz1, hz2⟩ := info_parts info3
  have N := Lib.hid (names_list w h)
  have hfew := h.ok.few
  have hcap := h.ok.cap2
  have hroom := h.ok.room
  have HH := Lib.hid h
  have hml : (1000000 : Nat) ≤ maxLen := by unfold maxLen; omega
  clear h
  go_enter Tryz.func49, Tryz.ntmps49
  go_wp2_with (go_at_call 45; refine N.out.mono ?_; rintro e w1 ⟨NA, nc, rfl, hnc, hncm, _, hNL, hB⟩)
  have HN := Lib.hid hNL
  have HL := Lib.hid (airOf_length s.files)
  clear hNL N
  generalize hn : s.files.length = n at *
  have Hn := Lib.hid hn
  clear hn
  go_loopg [3, 9] n (fun g s3 s9 wr => ∃ (i : Nat), s9 = .int .i64 i ∧ i ≤ n ∧ n - i ≤ g ∧ wr.ownsRow w1.heap.size 3 1 s3 i (iv ((airOf s.files).take i)) ∧ Below w1.heap.size w1 wr)
  case atStart => exact ⟨0, rfl, Nat.zero_le _, by omega, World.ownsRow_nil _ _ _ _, Below.refl _ _⟩
  case round =>
    obtain ⟨i, rfl, hi, hgm, hown, hb1⟩ := hrel
    have hsz := hB.size
    have hsz1 := hb1.size
    have hbw := hB.trans (hb1.mono hsz)
    by_cases hlt : i < n
    · obtain ⟨x, hx⟩ : ∃ x, s.files[i]? = some x := ⟨s.files[i]'(by rw [Hn.out]; exact hlt), List.getElem?_eq_getElem _⟩
      have hF := HH.out.below hbw
      have hxm : x ∈ G.map (·.f) := by rw [← HH.out.files]; exact List.mem_of_getElem? hx
      obtain ⟨g, hg, hgx⟩ := List.mem_map.1 hxm
      have E := hF.each g hg
      have hp : x.plat ≤ x.bytes.length := HH.out.ok.plat x (List.mem_of_getElem? hx)
      have hbl : x.bytes.length ≤ 1048576 := by have h1 := total_mem (List.mem_of_getElem? hx); omega
      have hnm : (B x.name).size ≤ maxLen := by have := isNm_le (HH.out.ok.nm x (List.mem_of_getElem? hx)); rw [B_size]; unfold maxLen; omega
      have L := hF.look1 (B x.name) hnm hg (by rw [hgx, list_B])
      have c1 := hF.cells.2.1
      have hNL := HN.out.below hb1
      obtain ⟨nb, no, rfl, hnb, _, hnc'⟩ := hNL (by rw [strV_length, namesOf_length, Hn.out]; omega)
      have q1 : wr.cell? ⟨nb, no + i, none⟩ = some (.string (B x.name)) := hnc' i _ (by simp [strV, namesOf, hx])
      have C : Hid (Calls Tryz.prog 80 #[.pointer (some ⟨g.blk, 0, none⟩)] wr fun e w' => e = .returned (.int .i64 ((x.bytes.length - x.plat : Nat) : Int)) ∧ Below wr.heap.size wr w') :=
        Lib.hid ((inAir_is wr (g := g) (F := F) E (by rw [hgx]; exact hp) (by rw [hgx]; exact hbl)).mono fun e w' ⟨he, k, hw⟩ => ⟨by rw [he, hgx], by rw [hw]; exact below_drewN (Below.refl _ _) k⟩)
      have HT : Hid (iv ((airOf s.files).take (i + 1)) = iv ((airOf s.files).take i) ++ [.int .i64 ((x.bytes.length - x.plat : Nat) : Int)]) := Lib.hid (by
        have e : (airOf s.files)[i]? = some (((x.bytes.length - x.plat : Nat) : Nat) : Int) := by simp [airOf, hx]
        rw [List.take_add_one, e]
        simp [iv])
      have hn9 : n ≤ 9223372036854775807 := by omega
      have hncm9 : nc ≤ 9223372036854775807 := by unfold maxLen at hncm; omega
      have hs1 := hbw.size
      clear hF hxm hg hgx E hNL hnc' hcap hroom hp hbl hnm
      generalize g.blk = gb at *
      generalize (x.bytes.length - x.plat : Nat) = a at *
      generalize B x.name = nm at *
      go_wp2_with (first
        | (go_at_call 80; refine C.out.mono ?_; rintro e w2 ⟨rfl, hB2⟩; have hown2 := own_same (w' := w2) hown (fun b e => hB2.block b (hown.lt b e).2); have hz2' := hB2.size; clear C L)
        | (at_builtin; refine wpList_append_own _ rfl (.tmp 13) (.tmp 21) 32 rfl w1.heap.size 3 i0 (.int .i64 0) 1 8 Tryz.underlying32 hi0 hz0 hz1 hz2 rfl (by decide) _ _ _ rfl (hown2.alloc _) ⟨w2.heap.size, 0, none⟩ 1 1 [.int .i64 (a : Int)] rfl rfl (cell_one_new _ _ _) (by simp [Value.oneCell']) (by omega) (by omega) (by simp; omega) ?_; intro v3 w3 hown3 hgrow3 _))
      have hB4 : Below w1.heap.size w1 w3 := ((hb1.trans (hB2.mono hsz1)).alloc (by omega) _).grown hgrow3 (by simp; omega) (fun j hj => (hown2.lt j hj).1)
      go_roundg (n - (i + 1))
      case measure => omega
      case rel => exact ⟨i + 1, by go_num, by omega, by omega, by rw [HT.out]; exact hown3, hB4⟩
    · obtain rfl : i = n := by omega
      have e : (airOf s.files).take i = airOf s.files := List.take_of_length_le (by rw [HL.out]; exact Nat.le_refl _)
      rw [e] at hown
      clear e
      go_wp2
      go_ret
      exact ⟨_, rfl, by rw [Hn.out]; exact own_base_le hown hsz, hbw⟩
end
end Go.Proofs.YtlbhegicapggeaaGreat.fil
