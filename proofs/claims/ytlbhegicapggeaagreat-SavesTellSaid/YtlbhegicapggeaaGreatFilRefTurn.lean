/- Files: the document's own system: one file more, one file less. -/
import Derived.Test.YtlbhegicapggeaaGreatFilRefTell
import Derived.Deep.CutRange
namespace Go.Proofs.YtlbhegicapggeaaGreat.fil
open Go.RowKit Go.Lib Go.Maps Go.WideMaps
set_option linter.unusedVariables false
set_option linter.unusedSimpArgs false
set_option linter.unnecessarySimpa false
set_option linter.unusedSectionVars false

theorem infoFile : (Tryz.prog.info? 77).map (fun i => (i.zero, i.size, i.bytes)) = some (some (.agg #[.string ⟨#[]⟩, .string ⟨#[]⟩, .int .i64 0]), 3, 40) := by kernel_rfl
theorem sizeFile (W : World) : (Go.sizeOf 77).run Tryz.prog W = .ok 3 W := by kernel_rfl
theorem elemFile : Tryz.prog.elem 51 = 77 := by kernel_rfl
theorem three_new (w : World) (a b c : Value) (t : TypeId) : ∀ j u, [a, b, c][j]? = some u → (w.alloc (.cells #[a, b, c] t)).cell? ((⟨w.heap.size, 0, none⟩ : Addr).add j) = some u :=
  World.news_of_block (heap_alloc_new w (.cells #[a, b, c] t))
theorem three_one (a b : ByteArray) (c : Int) : ∀ u ∈ [Value.string a, Value.string b, Value.int .i64 c], u.oneCell' = true := by
  intro u hu
  simp at hu
  rcases hu with rfl | rfl | rfl <;> rfl
theorem addZero (a : Addr) : a.add 0 = a := by cases a; rfl
theorem files_head (A : Option Addr) (n c m : Nat) (h : m ≤ c) (W : World) :
    (Instr.slice 51 (.slice A n c) none (some (.int .i64 (m : Int))) none).run Tryz.prog W = .ok (.slice A m c) W := by
  have hu : Tryz.prog.underlying 51 = some (.slice (Tryz.prog.elem 51)) := by rw [elemFile]; exact Tryz.underlying51
  rw [run_slice_h (P := Tryz.prog) W 51 A n c hu .i64 (m : Int) (by omega) (by omega), elemFile, sizeFile]
  simp only [Result.andThen, sliced, Int.toNat_natCast]
  cases A with
  | none => simp
  | some a => simp [addZero]
/-- Where a tail of files lies. -/
def tailF (a : Addr) (c m : Nat) : Addr := if c = m then a else a.add (m * 3)
theorem files_tail (a : Addr) (n c m k : Nat) (h : n = m + k) (W : World) :
    (Instr.slice 51 (.slice (some a) n c) (some (.int .i64 (m : Int))) none none).run Tryz.prog W = .ok (.slice (some (tailF a c m)) k (c - m)) W := by
  have hu : Tryz.prog.underlying 51 = some (.slice (Tryz.prog.elem 51)) := by rw [elemFile]; exact Tryz.underlying51
  rw [run_slice_l (P := Tryz.prog) W 51 (some a) n c hu .i64 (m : Int) (by omega) (by omega), elemFile, sizeFile]
  simp only [Result.andThen, sliced, Int.toNat_natCast, tailF]
  rw [show n - m = k by omega]
  split <;> rfl

section
variable {q : Bool} {w w' : World} {rb : Nat} {s s' : St} {v kv : Value} {z : Int} {fl : Bool} {F F' : Nat → Prop} {d : Option (Nat × List Int)}
theorem RDue.kept (h : RDue w F kv z fl d) (hb : ∀ b cs, At w b 3 cs → w'.heap[b]? = w.heap[b]?) (hF : ∀ b, F b → F' b) : RDue w' F' kv z fl d := by
  rcases d with _ | ⟨n, ks⟩
  · exact h
  · obtain ⟨h1, h2, ks', h3, h4, h5, h6⟩ := h
    refine ⟨h1, h2, ks', h3, h4, own_same h5 (fun x e => ?_), fun b e => hF b (h6 b e)⟩
    obtain ⟨cs, hx⟩ := own_at h5 e
    exact hb x cs hx
theorem own_slice {base e size n : Nat} {xs : List Value} (h : w.ownsRow base e size v n xs) : ∃ A m c, v = .slice A m c := by
  rcases h.2 with ⟨hv, h0⟩ | ⟨b, cap, _, hv, _⟩
  · exact ⟨none, 0, 0, hv⟩
  · exact ⟨_, _, _, hv⟩
/-- Another row of files, of new memory, is put in. -/
theorem RFz.newRow (h : RFz true w rb s v kv z fl F) {w1 : World} (hB : Below w.heap.size w w1) {v' : Value} {l' : List Fl} (hr : w1.ownsRow w.heap.size 77 3 v' l'.length (fv l')) (hok : Ok { s with files := l' }) :
    RWent F rb { s with files := l' } w (w1.setCell ⟨rb, 4, none⟩ v') := by
  have hrb := h.head.lt
  have hfar : ∀ b, b ≠ rb → (w1.setCell ⟨rb, 4, none⟩ v').heap[b]? = w1.heap[b]? := fun b hb => Below.heap_setCell w1 ⟨rb, 4, none⟩ v' b hb
  refine ⟨(Turned.of_below hB F).setCell (.inl h.mine) _, fun b => F b ∨ (w.heap.size ≤ b ∧ b < w1.heap.size), fun b hb => hb.imp id (fun h => h.1), v', kv, z, fl, hok, ?_, ?_, fun b hb => .inr (hr.lt b hb), fun _ => ?_, .inl h.mine, fun b hb => ?_⟩
  · exact At.set (h.below hB).head 4 v'
  · exact own_same (own_base hr) (fun b hb => hfar b (by have := (hr.lt b hb).1; omega))
  · refine ((h.below hB).due rfl).kept (fun b cs hb => hfar b (hb.ne (h.below hB).head (by decide))) (fun b hb => .inl hb)
  · rcases hb with hb | hb
    · have := h.lt b hb; have := hB.size; simp; omega
    · simpa using hb.2

set_option maxHeartbeats 2000000 in
set_option maxRecDepth 100000 in
theorem refWith_is (x : Fl) (w : World) (hok : Ok { s with files := ins s.files x }) (h : RFz true w rb s v kv z fl F) :
    Calls Tryz.prog 72 #[.pointer (some ⟨rb, 0, none⟩), .agg #[.string (B x.name), .string (B x.bytes), .int .i64 x.plat]] w fun e w' => e = .returned (.tuple #[]) ∧ RWent F rb { s with files := ins s.files x } w w' := by
  have HH := Lib.hid h
  have hfew := h.ok.few
  have hrb : rb < w.heap.size := h.head.lt
  obtain ⟨i0, hi0, hz0, hz1, hz2⟩ := info_parts infoFile
  have hml : (1000000 : Nat) ≤ maxLen := by unfold maxLen; omega
  have HBX : Below w.heap.size w (w.alloc (.cells #[.string (B x.name), .string (B x.bytes), .int .i64 x.plat] 77)) := (Below.refl _ w).alloc (Nat.le_refl _) _
  have HAT := At.new w 77 #[.string (B x.name), .string (B x.bytes), .int .i64 x.plat]
  have hzx : (w.alloc (.cells #[.string (B x.name), .string (B x.bytes), .int .i64 x.plat] 77)).heap.size = w.heap.size + 1 := by simp
  obtain ⟨A, cc, rfl⟩ : ∃ A cc, v = .slice A s.files.length cc := by
    rcases h.row.2 with ⟨hv, h0⟩ | ⟨b, cap, _, hv, _⟩
    · exact ⟨none, 0, by rw [hv, h0]⟩
    · exact ⟨_, _, hv⟩
  clear h
  have HOK := Lib.hid hok
  clear hok
  generalize hll : s.files.length = n at *
  have HL := Lib.hid hll
  clear hll
  go_enter Tryz.func72, Tryz.ntmps72
  go_wp2
  generalize w.alloc (.cells #[.string (B x.name), .string (B x.bytes), .int .i64 x.plat] 77) = wa at *
  have HA := Lib.hid HAT
  have HB0 := Lib.hid HBX
  clear HAT HBX
  go_loopg [4, 5] n (fun g s4 s5 wr => ∃ (i : Nat), s5 = .int .i64 i ∧ i ≤ n ∧ n - i ≤ g ∧ wr.ownsRow wa.heap.size 77 3 s4 ((s.files.take i).filter fun y => decide (y.name < x.name)).length (fv ((s.files.take i).filter fun y => decide (y.name < x.name))) ∧ Below wa.heap.size wa wr)
  case atStart => exact ⟨0, rfl, Nat.zero_le _, by omega, World.ownsRow_nil _ _ _ _, Below.refl _ _⟩
  case round =>
    obtain ⟨i, rfl, hi, hg, hown, hB⟩ := hrel
    have hsz := hB.size
    have HW := HH.out.below (HB0.out.trans (hB.mono (by omega)))
    have c4 := HW.cells.2.2.2.2.1
    have hAr := HA.out.same (hB.block _ HA.out.lt)
    have p0 : wr.cell? ⟨w.heap.size, 0, none⟩ = some (.string (B x.name)) := hAr.cell 0
    have p1 : wr.cell? ⟨w.heap.size, 1, none⟩ = some (.string (B x.bytes)) := hAr.cell 1
    have p2 : wr.cell? ⟨w.heap.size, 2, none⟩ = some (.int .i64 x.plat) := hAr.cell 2
    by_cases hlt : i < n
    · obtain ⟨y, hy⟩ : ∃ y, s.files[i]? = some y := ⟨s.files[i]'(by rw [HL.out]; exact hlt), List.getElem?_eq_getElem _⟩
      obtain ⟨g, off, c', hA, h0, _, hlc, hc9, _, _, q0, q1, q2, _⟩ := HW.at hy
      rw [HL.out] at hA hlc
      injection hA with hA _ hcc
      subst hA
      subst hcc
      have hfl : ((s.files.take i).filter fun y => decide (y.name < x.name)).length ≤ 32 := Nat.le_trans (List.length_filter_le _ _) (by rw [List.length_take]; omega)
      by_cases hyx : y.name < x.name
      · have hbl : Op.bytesLess (B y.name).toList (B x.name).toList = true := by
          rw [Proofs.bytesLess_eq, Lib.toList_data, Lib.toList_data, list_B, list_B]; exact decide_eq_true hyx
        have HT : Hid (((s.files.take (i + 1)).filter fun y => decide (y.name < x.name)) = ((s.files.take i).filter fun y => decide (y.name < x.name)) ++ [y]) := Lib.hid (by
          rw [List.take_add_one, hy, List.filter_append]
          simp [hyx])
        clear HW h0 hy hAr
        generalize hf : ((s.files.take i).filter fun y => decide (y.name < x.name)) = fl1 at *
        clear hf
        have HFL := Lib.hid hfl
        have hK : Hid (((s.files.take (i + 1)).filter fun y => decide (y.name < x.name)).length = fl1.length + 1) := Lib.hid (by rw [HT.out]; simp)
        have hK2 : Hid (fv ((s.files.take (i + 1)).filter fun y => decide (y.name < x.name)) = fv fl1 ++ [.string (B y.name), .string (B y.bytes), .int .i64 y.plat]) := Lib.hid (by rw [HT.out, fv_append, fv_one]; rfl)
        generalize B y.name = yn at *
        generalize B y.bytes = yb at *
        generalize B x.name = xn at *
        generalize B x.bytes = xb at *
        go_wp2
        go_quiet (fail)
        go_wp2_with (at_builtin; refine wpList_append_own _ rfl (.tmp 27) (.tmp 35) 51 rfl wa.heap.size 77 i0 (.agg #[.string ⟨#[]⟩, .string ⟨#[]⟩, .int .i64 0]) 3 40 Tryz.underlying51 hi0 hz0 hz1 hz2 rfl (by decide) _ _ _ rfl (hown.alloc _) ⟨wr.heap.size, 0, none⟩ 1 1 [.string yn, .string yb, .int .i64 y.plat] rfl rfl (three_new _ _ _ _ _) (three_one _ _ _) (by omega) (by omega) (by simp; omega) ?_; intro v3 w3 hown3 hgrow3 _)
        have hB4 : Below wa.heap.size wa w3 := ((below_drewN hB _).alloc hsz _).grown hgrow3 (by simp; omega) (fun j hj => (hown.lt j hj).1)
        go_roundg (n - (i + 1))
        case measure => omega
        case rel => exact ⟨i + 1, by go_num, by omega, by omega, by rw [hK.out, hK2.out]; exact hown3, hB4⟩
      · have hbl : Op.bytesLess (B y.name).toList (B x.name).toList = false := by
          rw [Proofs.bytesLess_eq, Lib.toList_data, Lib.toList_data, list_B, list_B]; exact decide_eq_false hyx
        have HT : Hid (((s.files.take (i + 1)).filter fun y => decide (y.name < x.name)) = ((s.files.take i).filter fun y => decide (y.name < x.name))) := Lib.hid (by
          rw [List.take_add_one, hy, List.filter_append]
          simp [hyx])
        have HO := Lib.hid hown
        clear HW h0 hy hAr hown
        generalize B y.name = yn at *
        generalize B y.bytes = yb at *
        generalize B x.name = xn at *
        generalize B x.bytes = xb at *
        go_wp2
        go_quiet (fail)
        go_wp2
        go_roundg (n - (i + 1))
        case measure => omega
        case rel => exact ⟨i + 1, by go_num, by omega, by omega, by rw [HT.out]; exact HO.out, below_drewN hB _⟩
    · obtain rfl : i = n := by omega
      have e : s.files.take i = s.files := List.take_of_length_le (by rw [HL.out]; exact Nat.le_refl _)
      rw [e] at hown
      clear e
      have hfl : (s.files.filter fun y => decide (y.name < x.name)).length ≤ 32 := Nat.le_trans (List.length_filter_le _ _) (by rw [HL.out]; exact hfew)
      generalize hf1 : (s.files.filter fun y => decide (y.name < x.name)) = fl1 at *
      have HF1 := Lib.hid hf1
      clear hf1
      have hK2 : Hid (fv (fl1 ++ [x]) = fv fl1 ++ [.string (B x.name), .string (B x.bytes), .int .i64 x.plat]) := Lib.hid (by rw [fv_append, fv_one]; rfl)
      generalize hxn : B x.name = xn at *
      generalize hxb : B x.bytes = xb at *
      have HXN := Lib.hid hxn
      have HXB := Lib.hid hxb
      clear hxn hxb HW hAr
      go_wp2_with (at_builtin; refine wpList_append_own _ rfl (.tmp 37) (.tmp 39) 51 rfl wa.heap.size 77 i0 (.agg #[.string ⟨#[]⟩, .string ⟨#[]⟩, .int .i64 0]) 3 40 Tryz.underlying51 hi0 hz0 hz1 hz2 rfl (by decide) _ _ _ rfl (hown.alloc _) ⟨wr.heap.size, 0, none⟩ 1 1 [.string xn, .string xb, .int .i64 x.plat] rfl rfl (three_new _ _ _ _ _) (three_one _ _ _) (by omega) (by omega) (by simp; omega) ?_; intro v3 w3 hown3 hgrow3 _)
      have hB3 : Below wa.heap.size wa w3 := (hB.alloc hsz _).grown hgrow3 (by simp; omega) (fun j hj => (hown.lt j hj).1)
      clear hown hgrow3 p0 p1 p2 c4 hB hsz
      go_loopg [4, 6] i (fun g s4 s6 wr => ∃ (j : Nat), s6 = .int .i64 j ∧ j ≤ i ∧ i - j ≤ g ∧ wr.ownsRow wa.heap.size 77 3 s4 ((fl1 ++ [x]) ++ ((s.files.take j).filter fun y => decide (x.name < y.name))).length (fv ((fl1 ++ [x]) ++ ((s.files.take j).filter fun y => decide (x.name < y.name)))) ∧ Below wa.heap.size wa wr)
      case atStart => exact ⟨0, rfl, Nat.zero_le _, by omega, by simpa [hK2.out] using hown3, hB3⟩
      case round =>
        obtain ⟨j, rfl, hj, hg2, hown, hB⟩ := hrel
        have hsz := hB.size
        have HW := HH.out.below (HB0.out.trans (hB.mono (by omega)))
        have c4 := HW.cells.2.2.2.2.1
        have f4 := HW.frozen 4
        have hAr := HA.out.same (hB.block _ HA.out.lt)
        have p0 : wr.cell? ⟨w.heap.size, 0, none⟩ = some (.string xn) := hAr.cell 0
        have p1 : wr.cell? ⟨w.heap.size, 1, none⟩ = some (.string xb) := hAr.cell 1
        have p2 : wr.cell? ⟨w.heap.size, 2, none⟩ = some (.int .i64 x.plat) := hAr.cell 2
        by_cases hlt : j < i
        · obtain ⟨y, hy⟩ : ∃ y, s.files[j]? = some y := ⟨s.files[j]'(by rw [HL.out]; exact hlt), List.getElem?_eq_getElem _⟩
          obtain ⟨g, off, c', hA, h0, _, hlc, hc9, _, _, q0, q1, q2, _⟩ := HW.at hy
          rw [HL.out] at hA hlc
          injection hA with hA _ hcc
          subst hA
          subst hcc
          by_cases hyx : x.name < y.name
          · have hbl : Op.bytesLess (B y.name).toList xn.toList = false := by
              rw [← HXN.out, Proofs.bytesLess_eq, Lib.toList_data, Lib.toList_data, list_B, list_B]; exact decide_eq_false (lt_as hyx)
            have hbe : ((B y.name).toList == xn.toList) = false := (Lib.bytes_beq_false_iff _ _).2 (by rw [← HXN.out]; exact fun e => lt_ne hyx (B_inj e).symm)
            have HT : Hid (((fl1 ++ [x]) ++ ((s.files.take (j + 1)).filter fun y => decide (x.name < y.name))) = ((fl1 ++ [x]) ++ ((s.files.take j).filter fun y => decide (x.name < y.name))) ++ [y]) := Lib.hid (by
              rw [List.take_add_one, hy, List.filter_append]
              simp [hyx])
            have hfl2 : ((fl1 ++ [x]) ++ ((s.files.take j).filter fun y => decide (x.name < y.name))).length ≤ 65 := by
              have := List.length_filter_le (fun y => decide (x.name < y.name)) (s.files.take j)
              rw [List.length_take] at this
              simp only [List.length_append, List.length_cons, List.length_nil]
              omega
            clear HW h0 hy hAr
            generalize hf : ((fl1 ++ [x]) ++ ((s.files.take j).filter fun y => decide (x.name < y.name))) = fl2 at *
            clear hf
            have hK : Hid (((fl1 ++ [x]) ++ ((s.files.take (j + 1)).filter fun y => decide (x.name < y.name))).length = fl2.length + 1) := Lib.hid (by rw [HT.out]; simp)
            have hK3 : Hid (fv ((fl1 ++ [x]) ++ ((s.files.take (j + 1)).filter fun y => decide (x.name < y.name))) = fv fl2 ++ [.string (B y.name), .string (B y.bytes), .int .i64 y.plat]) := Lib.hid (by rw [HT.out, fv_append, fv_one]; rfl)
            generalize B y.name = yn at *
            generalize B y.bytes = yb at *
            go_wp2
            go_quiet (fail)
            go_wp2_with (at_builtin; refine wpList_append_own _ rfl (.tmp 61) (.tmp 69) 51 rfl wa.heap.size 77 i0 (.agg #[.string ⟨#[]⟩, .string ⟨#[]⟩, .int .i64 0]) 3 40 Tryz.underlying51 hi0 hz0 hz1 hz2 rfl (by decide) _ _ _ rfl (hown.alloc _) ⟨wr.heap.size, 0, none⟩ 1 1 [.string yn, .string yb, .int .i64 y.plat] rfl rfl (three_new _ _ _ _ _) (three_one _ _ _) (by omega) (by omega) (by simp; omega) ?_; intro v5 w5 hown5 hgrow5 _)
            have hB4 : Below wa.heap.size wa w5 := ((below_drewN hB _).alloc hsz _).grown hgrow5 (by simp; omega) (fun j hj => (hown.lt j hj).1)
            go_roundg (i - (j + 1))
            case measure => omega
            case rel => exact ⟨j + 1, by go_num, by omega, by omega, by rw [hK.out, hK3.out]; exact hown5, hB4⟩
          · have HT : Hid (((fl1 ++ [x]) ++ ((s.files.take (j + 1)).filter fun y => decide (x.name < y.name))) = ((fl1 ++ [x]) ++ ((s.files.take j).filter fun y => decide (x.name < y.name)))) := Lib.hid (by
              rw [List.take_add_one, hy, List.filter_append]
              simp [hyx])
            have HO := Lib.hid hown
            by_cases hyy : y.name < x.name
            · have hbl : Op.bytesLess (B y.name).toList xn.toList = true := by
                rw [← HXN.out, Proofs.bytesLess_eq, Lib.toList_data, Lib.toList_data, list_B, list_B]; exact decide_eq_true hyy
              clear HW h0 hy hAr hown
              generalize B y.name = yn at *
              generalize B y.bytes = yb at *
              go_wp2
              go_quiet (fail)
              go_wp2
              go_roundg (i - (j + 1))
              case measure => omega
              case rel => exact ⟨j + 1, by go_num, by omega, by omega, by rw [HT.out]; exact HO.out, below_drewN hB _⟩
            · have hye : y.name = x.name := lt_tri _ _ hyy hyx
              have hbl : Op.bytesLess (B y.name).toList xn.toList = false := by
                rw [← HXN.out, Proofs.bytesLess_eq, Lib.toList_data, Lib.toList_data, list_B, list_B]; exact decide_eq_false hyy
              have hbe : ((B y.name).toList == xn.toList) = true := by rw [← HXN.out, hye]; simp
              clear HW h0 hy hAr hown hye
              generalize B y.name = yn at *
              generalize B y.bytes = yb at *
              go_wp2
              go_quiet (fail)
              go_wp2
              go_roundg (i - (j + 1))
              case measure => omega
              case rel => exact ⟨j + 1, by go_num, by omega, by omega, by rw [HT.out]; exact HO.out, below_drewN hB _⟩
        · obtain rfl : j = i := by omega
          have e : s.files.take j = s.files := List.take_of_length_le (by rw [HL.out]; exact Nat.le_refl _)
          have hww : w.heap.size ≤ wa.heap.size := by omega
          have HZ : Hid (∀ v', wr.ownsRow wa.heap.size 77 3 v' ((fl1 ++ [x]) ++ ((s.files.take j).filter fun y => decide (x.name < y.name))).length (fv ((fl1 ++ [x]) ++ ((s.files.take j).filter fun y => decide (x.name < y.name)))) → RWent F rb { s with files := ins s.files x } w (wr.setCell ⟨rb, 4, none⟩ v')) := Lib.hid (fun v' hv' => by
            refine HH.out.newRow (HB0.out.trans (hB.mono hww)) (l' := ins s.files x) ?_ HOK.out
            rw [e] at hv'
            have e2 : (fl1 ++ [x]) ++ (s.files.filter fun y => decide (x.name < y.name)) = ins s.files x := by rw [← HF1.out]; simp [ins]
            rw [e2] at hv'
            exact own_base_le hv' hww)
          have HO := Lib.hid hown
          obtain ⟨A4, m4, c4', rfl⟩ := own_slice hown
          clear HW hown hAr e
          go_wp2
          go_end0
          exact ⟨rfl, HZ.out _ HO.out⟩
end
end Go.Proofs.YtlbhegicapggeaaGreat.fil
