/- Files: the names of all files, their size together, whether there is room. -/
import Derived.Test.YtlbhegicapggeaaGreatFilTell
import Derived.Sort.OwnSorted
import Derived.Deep.RegionHeld3
namespace Go.Proofs.YtlbhegicapggeaaGreat.fil
open Go.RowKit Go.Lib Go.Maps Go.WideMaps Go.Sort Go.Shelf
set_option linter.unusedVariables false
set_option linter.unusedSimpArgs false
set_option linter.unnecessarySimpa false
set_option linter.unusedSectionVars false

def strV (ts : List (List UInt8)) : List Value := ts.map fun t => Value.string (B t)
theorem strV_length (ts : List (List UInt8)) : (strV ts).length = ts.length := by simp [strV]
def namesOf (l : List Fl) : List (List UInt8) := l.map (·.name)
theorem namesOf_length (l : List Fl) : (namesOf l).length = l.length := by simp [namesOf]

section
variable {q : Bool} {F : Nat → Prop} {fb mb : Nat} {D : DataW Unit} {G : List Gf} {dp : Option Addr} {s : St}

theorem rise_sorted {l : List Fl} (h : Rise l) {ss : List (List UInt8)} (hp : ss.Perm (namesOf l)) : ss.mergeSort (fun x y => decide (x ≤ y)) = namesOf l := by
  have h1 : ss.mergeSort leB = (namesOf l).mergeSort leB := mergeSort_of_perm hp
  rw [show (ss.mergeSort fun x y => decide (x ≤ y)) = ss.mergeSort leB from rfl, h1]
  refine List.mergeSort_of_pairwise ?_
  refine (rise_names.1 h).imp fun {a b} hab => ?_
  simp only [leB, decide_eq_true_eq]
  exact List.le_of_lt hab

theorem names_no (p : Option Addr) (w : World) (h : NoFs w p) : Calls Tryz.prog 45 #[.pointer p] w fun e w' => e = .returned (.slice none 0 0) ∧ w = w' := by
  have C := Lib.hid (isNone_no p w h)
  clear h
  go_enter Tryz.func45, Tryz.ntmps45
  go_wp2_with (go_at_call 76; refine C.out.mono ?_; rintro e w' ⟨rfl, rfl⟩)
  go_ret
  exact ⟨rfl, rfl⟩

set_option maxHeartbeats 1000000 in
theorem names_is (w : World) (h : Fz q w fb mb D G dp s F) :
    Calls Tryz.prog 45 #[.pointer (some ⟨fb, 0, none⟩)] w fun e w' => ∃ v, e = .returned v ∧ w'.ownsRow w.heap.size 9 1 v s.files.length (strV (namesOf s.files)) ∧ Below w.heap.size w w' := by
  have C := Lib.hid (isNone_is w h)
  have c1 := h.cells.2.1
  have hR := h.ok.rise
  have hGn : (G.map fun g => g.f.name) = namesOf s.files := by rw [h.files]; simp [namesOf]
  have hP : (namesOf s.files).Perm (strKeys D) := by
    rw [← hGn]
    refine h.isMap.perm h.map ?_
    rw [hGn]
    exact (rise_names.1 hR).imp fun hab => lt_ne hab
  have hz : Maps.size D ≤ 32 := by rw [h.isMap.size]; have := h.ok.few; rw [h.files, List.length_map] at this; exact this
  have KS := fun (hm : Maps.size D ≤ maxLen) (hb : Maps.size D * 16 ≤ 140737488355328) => Tryz.slices_Sorted_keys_78_79 mb G.length D ptrE w h.map hm hb
  have K := Lib.hid (KS (by unfold maxLen; omega) (by omega))
  have HR := Lib.hid hR
  have HP := Lib.hid hP
  clear h hP hR hGn KS
  refine (callsIn_wide (n := 6)).1 ?_
  have hfN : Fence.wide.fn 76 := trivial
  have hfK : Fence.wide.fn 79 := trivial
  have hfS : Fence.wide.fn 78 := trivial
  refine callsIn_of_wp Tryz.func45 rfl trivial ?_ rfl
  simp only [Tryz.ntmps45, List.size_toArray, List.length_cons, List.length_nil, Nat.reduceAdd, Nat.reduceSub, Array.replicate_succ, Array.replicate_zero, List.push_toArray, List.append_toArray, List.nil_append, List.cons_append]
  gi_wp2_with (first
    | (gi_at_call 76; refine (callsIn_wide.2 C.out).mono ?_; rintro e w' ⟨rfl, rfl⟩)
    | (gi_at_call 79; refine (Tryz.maps_Keys_79 _ _).mono ?_; rintro e w' ⟨rfl, rfl⟩)
    | (gi_at_call 78; refine K.out.mono ?_; rintro e w' ⟨v, ss, rfl, hS, hrow, hnil, hb⟩))
  go_ret
  have hp := hS.trans HP.out.symm
  have e1 := rise_sorted HR.out hp
  have e2 : ss.length = s.files.length := by rw [hp.length_eq, namesOf_length]
  rw [e1, e2] at hrow
  exact ⟨v, rfl, ownsRow_base_a hrow (by simp), ((Below.refl _ w).alloc (Nat.le_refl _) _).trans (hb.mono (by simp))⟩

/-! ### Size -/
def sumNot (G : List Gf) (left : Lit → Bool) : Nat := ((G.filter fun g => !left (.string g.f.name)).map fun g => g.f.bytes.length).sum
theorem sumNot_le (G : List Gf) (left : Lit → Bool) : sumNot G left ≤ total (G.map (·.f)) := by
  unfold sumNot
  induction G with
  | nil => exact Nat.le_refl _
  | cons g G ih =>
    rw [List.map_cons, total_cons, List.filter_cons]
    split
    · rw [List.map_cons, List.sum_cons]; omega
    · omega
theorem sumNot_all (G : List Gf) {left : Lit → Bool} (h : ∀ kl, left kl = false) : sumNot G left = total (G.map (·.f)) := by
  unfold sumNot total
  rw [List.filter_eq_self.2 (fun g _ => by simp [h])]
  rw [List.map_map]
  rfl
theorem sumNot_none {G : List Gf} {left : Lit → Bool} (h : ∀ g ∈ G, left (.string g.f.name) = true) : sumNot G left = 0 := by
  unfold sumNot
  rw [List.filter_eq_nil_iff.2 (fun g hg => by simp [h g hg])]
  rfl
theorem sumNot_congr {G : List Gf} {left left' : Lit → Bool} (h : ∀ g ∈ G, left (.string g.f.name) = left' (.string g.f.name)) : sumNot G left = sumNot G left' := by
  unfold sumNot
  rw [List.filter_congr (fun g hg => by rw [h g hg])]
theorem sumNot_cons (g : Gf) (G : List Gf) (left : Lit → Bool) : sumNot (g :: G) left = (if left (.string g.f.name) then 0 else g.f.bytes.length) + sumNot G left := by
  unfold sumNot
  rw [List.filter_cons]
  cases left (.string g.f.name) <;> simp
theorem sumNot_step : ∀ {G : List Gf} {left : Lit → Bool} {g : Gf}, G.Pairwise (fun a b => a.f.name ≠ b.f.name) → g ∈ G → left (.string g.f.name) = true →
    sumNot G (fun z => left z && !z.sameKey (.string g.f.name)) = sumNot G left + g.f.bytes.length
  | x :: G, left, g, hp, hg, hl => by
    obtain ⟨h1, h2⟩ := List.pairwise_cons.1 hp
    rw [sumNot_cons, sumNot_cons]
    rcases List.mem_cons.1 hg with e | hg'
    · subst e
      have e2 : sumNot G (fun z => left z && !z.sameKey (.string g.f.name)) = sumNot G left := sumNot_congr fun y hy => by
        have := h1 y hy
        have e3 : (Lit.string y.f.name).sameKey (.string g.f.name) = false := by simp [Lit.sameKey]; exact fun e => this e.symm
        simp [e3]
      have e4 : (Lit.string g.f.name).sameKey (.string g.f.name) = true := by simp [Lit.sameKey]
      rw [e2, hl]
      simp [e4]
      omega
    · have ih := sumNot_step h2 hg' hl
      have e3 : (Lit.string x.f.name).sameKey (.string g.f.name) = false := by simp [Lit.sameKey]; exact h1 g hg'
      rw [ih]
      simp [e3]
      omega

theorem Fz.apartNames {w : World} (h : Fz q w fb mb D G dp s F) : G.Pairwise (fun a b => a.f.name ≠ b.f.name) := by
  have h1 := h.ok.rise
  rw [h.files] at h1
  exact (List.pairwise_map.1 h1).imp fun hab => lt_ne hab

/-- A round of a range over the files. -/
theorem next_files {ops : Array Oper} {rest : List Oper} {o : Oper} {a : Act} {Q : Exit → Act → World → Prop} (w : World) (hg : o.guard = none) (it : Operand) (hop : o.op = Op.next it false) (hM : MapIs D G)
    (r n : Nat) (left : Lit → Bool) (cnt : Nat) (hit : a.eval it = .pointer (some ⟨r, 0, none⟩)) (h : w.ranges Tryz.prog 9 ptrE mb r n D left cnt)
    (hDone : (∀ kl, left kl = false) → wpList Tryz.prog ops Q rest (a.put o.dst (.tuple #[.bool false])) w)
    (hMore : ∀ (x : List UInt8) (g : Gf) (w' : World) (cnt' : Nat), g ∈ G → left (.string g.f.name) = true → w'.ranges Tryz.prog 9 ptrE mb r n D (fun z => left z && !z.sameKey (.string g.f.name)) cnt' → cnt' < cnt →
      w.grownBy w' (some r) → w'.heap.size = w.heap.size → (Instr.entry (.pointer (some ⟨r, 0, none⟩))).run Tryz.prog w' = .ok (.tuple #[Go.Proofs.encStr x, .pointer (some ⟨g.blk, 0, none⟩)]) w' →
      wpList Tryz.prog ops Q rest (a.put o.dst (.tuple #[.bool true, Go.Proofs.encStr x, .pointer (some ⟨g.blk, 0, none⟩)])) w') :
    wpList Tryz.prog ops Q (o :: rest) a w := by
  refine wpList_next_ranges w hg it hop 9 (string_keyed Tryz.underlying9) ptrE Go.Proofs.encStr (fun o : Option Nat => .pointer (o.map fun b => ⟨b, 0, none⟩))
    (fun key kl hk => by obtain ⟨x, hx, _⟩ := Maps.keyOf_str Tryz.underlying9 hk; exact ⟨x, hx⟩) (fun v y hv => ptrE_shape hv) mb r n D left cnt hit h (fun _ h0 => hDone h0) ?_
  intro x c kl y w' cnt' hkey hlk hv hat hrg hlt hgr hsz hen
  have hh : Maps.has D kl = true := has_true_of_atKey hat
  obtain ⟨g, hgG, rfl⟩ := (hM.keys kl).1 hh
  have hy : y.1 = .lit (.int .i64 g.blk) := (hat .nil).symm.trans (hM.vals g hgG .nil)
  obtain ⟨y1, y2⟩ := y
  simp only at hy
  subst hy
  have hc := ptrE_some hv
  obtain rfl : c = some g.blk := by
    cases c with
    | none => cases hc
    | some b => simp at hc; rw [hc]
  exact hMore x g w' cnt' hgG hlk hrg hlt hgr hsz hen

theorem size_no (p : Option Addr) (w : World) (h : NoFs w p) : Calls Tryz.prog 51 #[.pointer p] w fun e w' => e = .returned (.int .i64 0) ∧ w = w' := by
  have C := Lib.hid (isNone_no p w h)
  clear h
  go_enter Tryz.func51, Tryz.ntmps51
  go_wp2_with (go_at_call 76; refine C.out.mono ?_; rintro e w' ⟨rfl, rfl⟩)
  go_ret
  exact ⟨rfl, rfl⟩

set_option maxHeartbeats 1000000 in
set_option maxRecDepth 100000 in
theorem size_is (w : World) (h : Fz q w fb mb D G dp s F) :
    Calls Tryz.prog 51 #[.pointer (some ⟨fb, 0, none⟩)] w fun e w' => e = .returned (.int .i64 (total s.files)) ∧ Below w.heap.size w w' := by
  have C := Lib.hid (isNone_is w h)
  have c1 := h.cells.2.1
  have H := Lib.hid h
  have hT : total (G.map (·.f)) ≤ 1048576 := by have h1 := h.ok.room; have h2 := h.ok.cap2; rw [h.files] at h1; omega
  have hM := h.isMap
  have hA := Lib.hid h.apartNames
  have hown := h.map
  clear h
  go_enter Tryz.func51, Tryz.ntmps51
  go_wp2_with (first
    | (go_at_call 76; refine C.out.mono ?_; rintro e w' ⟨rfl, rfl⟩)
    | (at_range; refine wpList_range_own _ rfl _ 47 rfl 9 73 (string_keyed Tryz.underlying9) Tryz.underlying47 ptrE mb G.length D rfl hown ?_; intro w0 hrg0 hg0 hs0))
  go_frame
  have H0 : Hid (sumNot G (Maps.has D) = 0) := Lib.hid (sumNot_none fun g hg => (hM.keys _).2 ⟨g, hg, rfl⟩)
  have hB0 : Below w.heap.size w w0 := (Below.refl _ _).grown hg0 (Nat.le_refl _) (by simp)
  clear hg0 hs0
  go_loopw [3] (fun v wr => ∃ (m cnt : Nat) (left : Lit → Bool), v = .int .i64 m ∧ m ≤ 1048576 ∧ Hid (m = sumNot G left) ∧ wr.ranges Tryz.prog 9 ptrE mb w.heap.size G.length D left cnt ∧ Below w.heap.size w wr) (fun _ wr => wr.rangeLeft mb w.heap.size)
  case atStart => exact ⟨0, _, _, rfl, by omega, Lib.hid H0.out.symm, hrg0, hB0⟩
  case round =>
    obtain ⟨m, cnt, left, rfl, hm, HM, hrg, hB⟩ := hrel
    clear hrg0 hB0 H0 c1
    go_wp2_with (at_next; refine next_files wr rfl _ rfl hM w.heap.size G.length left cnt rfl hrg ?_ ?_)
    · intro hl
      have e1 := sumNot_all G hl
      rw [← HM.out, ← H.out.files] at e1
      have HE := Lib.hid e1
      clear e1
      go_wp2
      go_ret
      exact ⟨ret_int (by rw [HE.out]), hB⟩
    · intro x g w1 cnt1 hgG hlk hrg1 hlt hg1 hs1 hen
      have HF := H.out.each g hgG
      have hB1 : Below w.heap.size w w1 := hB.grown hg1 hB.size (fun k hk => by cases hk; exact Nat.le_refl _)
      have k0 : w1.cell? ⟨g.blk, 0, none⟩ = some g.v := by rw [hB1.cell (p := ⟨g.blk, 0, none⟩) HF.blk.lt]; exact HF.blk.cell 0
      obtain ⟨A, c, hv⟩ := own_form HF.row
      rw [hv] at k0
      have e1 := sumNot_step hA.out hgG hlk
      have e2 := sumNot_le G (fun z => left z && !z.sameKey (.string g.f.name))
      rw [← HM.out] at e1
      rw [e1] at e2
      have hm2 : m + g.f.bytes.length ≤ 1048576 := by omega
      have HE := Lib.hid e1
      have HW := Lib.hid (And.intro hrg1.left_eq (And.intro hrg.left_eq hlt))
      clear e1 e2 hs1 hv hg1 hlk hrg hlt HF HM hgG
      generalize g.f.bytes.length = gl at *
      generalize g.blk = gb at *
      go_wp2
      go_roundw
      case rel => exact ⟨m + gl, cnt1, _, by go_num, hm2, Lib.hid HE.out.symm, hrg1, hB1⟩
      case measure => rw [HW.out.1, HW.out.2.1]; exact HW.out.2.2
end
end Go.Proofs.YtlbhegicapggeaaGreat.fil
