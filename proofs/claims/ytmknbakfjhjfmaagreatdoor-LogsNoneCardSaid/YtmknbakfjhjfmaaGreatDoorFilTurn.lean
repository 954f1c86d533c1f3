/- Files: what a file system's blocks are behind a step that turns them. -/
import Derived.Test.YtmknbakfjhjfmaaGreatDoorFilTell
import Derived.Sort.OwnSorted
import Derived.Deep.RegionHeld3
import Derived.IntWalk
/-! Files: the names of all files, their size together, whether there is room. -/
namespace Go.Proofs.YtmknbakfjhjfmaaGreatDoor.fil
open Go.RowKit Go.Lib Go.Maps Go.WideMaps Go.Sort Go.Shelf
set_option linter.unusedVariables false
set_option linter.unusedSimpArgs false
set_option linter.unnecessarySimpa false
set_option linter.unusedSectionVars false

def strV (ts : List (List UInt8)) : List Value := ts.map fun t => Value.string (B t)
theorem strV_length (ts : List (List UInt8)) : (strV ts).length = ts.length := by simp [strV]
def namesOf (l : List Fl) : List (List UInt8) := l.map (·.name)
theorem namesOf_length (l : List Fl) : (namesOf l).length = l.length := by simp [namesOf]

section
variable {q : Bool} {F : Nat → Prop} {fb mb : Nat} {D : DataW Unit} {G : List Gf} {dp : Option Addr} {s : St}

theorem rise_sorted {l : List Fl} (h : Rise l) {ss : List (List UInt8)} (hp : ss.Perm (namesOf l)) : ss.mergeSort (fun x y => decide (x ≤ y)) = namesOf l := by
  have h1 : ss.mergeSort leB = (namesOf l).mergeSort leB := mergeSort_of_perm hp
  rw [show (ss.mergeSort fun x y => decide (x ≤ y)) = ss.mergeSort leB from rfl, h1]
  refine List.mergeSort_of_pairwise ?_
  refine (rise_names.1 h).imp fun {a b} hab => ?_
  simp only [leB, decide_eq_true_eq]
  exact List.le_of_lt hab

theorem names_no (p : Option Addr) (w : World) (h : NoFs w p) : Calls Tryz.prog 55 #[.pointer p] w fun e w' => e = .returned (.slice none 0 0) ∧ w = w' := by
  have C := Lib.hid (isNone_no p w h)
  clear h
  go_enter Tryz.func55, Tryz.ntmps55
  go_wp2_with (go_at_call 35; refine C.out.mono ?_; rintro e w' ⟨rfl, rfl⟩)
  go_ret
  exact ⟨rfl, rfl⟩

set_option maxHeartbeats 1000000 in
theorem names_is (w : World) (h : Fz q w fb mb D G dp s F) :
    Calls Tryz.prog 55 #[.pointer (some ⟨fb, 0, none⟩)] w fun e w' => ∃ v, e = .returned v ∧ w'.ownsRow w.heap.size 9 1 v s.files.length (strV (namesOf s.files)) ∧ Below w.heap.size w w' := by
  have C := Lib.hid (isNone_is w h)
  have c1 := h.cells.2.1
  have hR := h.ok.rise
  have hGn : (G.map fun g => g.f.name) = namesOf s.files := by rw [h.files]; simp [namesOf]
  have hP : (namesOf s.files).Perm (strKeys D) := by
    rw [← hGn]
    refine h.isMap.perm h.map ?_
    rw [hGn]
    exact (rise_names.1 hR).imp fun hab => lt_ne hab
  have hz : Maps.size D ≤ 32 := by rw [h.isMap.size]; have := h.ok.few; rw [h.files, List.length_map] at this; exact this
  have KS := fun (hm : Maps.size D ≤ maxLen) (hb : Maps.size D * 16 ≤ 140737488355328) => Tryz.slices_Sorted_keys_79_80 mb G.length D ptrE w h.map hm hb
  have K := Lib.hid (KS (by unfold maxLen; omega) (by omega))
  have HR := Lib.hid hR
  have HP := Lib.hid hP
  clear h hP hR hGn KS
  refine (callsIn_wide (n := 6)).1 ?_
  have hfN : Fence.wide.fn 35 := trivial
  have hfK : Fence.wide.fn 80 := trivial
  have hfS : Fence.wide.fn 79 := trivial
  refine callsIn_of_wp Tryz.func55 rfl trivial ?_ rfl
  simp only [Tryz.ntmps55, List.size_toArray, List.length_cons, List.length_nil, Nat.reduceAdd, Nat.reduceSub, Array.replicate_succ, Array.replicate_zero, List.push_toArray, List.append_toArray, List.nil_append, List.cons_append]
  gi_wp2_with (first
    | (gi_at_call 35; refine (callsIn_wide.2 C.out).mono ?_; rintro e w' ⟨rfl, rfl⟩)
    | (gi_at_call 80; refine (Tryz.maps_Keys_80 _ _).mono ?_; rintro e w' ⟨rfl, rfl⟩)
    | (gi_at_call 79; refine K.out.mono ?_; rintro e w' ⟨v, ss, rfl, hS, hrow, hnil, hb⟩))
  go_ret
  have hp := hS.trans HP.out.symm
  have e1 := rise_sorted HR.out hp
  have e2 : ss.length = s.files.length := by rw [hp.length_eq, namesOf_length]
  rw [e1, e2] at hrow
  exact ⟨v, rfl, ownsRow_base_a hrow (by simp), ((Below.refl _ w).alloc (Nat.le_refl _) _).trans (hb.mono (by simp))⟩

/-! ### Size -/
def sumNot (G : List Gf) (left : Lit → Bool) : Nat := ((G.filter fun g => !left (.string g.f.name)).map fun g => g.f.bytes.length).sum
theorem sumNot_le (G : List Gf) (left : Lit → Bool) : sumNot G left ≤ total (G.map (·.f)) := by
  unfold sumNot
  induction G with
  | nil => exact Nat.le_refl _
  | cons g G ih =>
    rw [List.map_cons, total_cons, List.filter_cons]
    split
    · rw [List.map_cons, List.sum_cons]; omega
    · omega
theorem sumNot_all (G : List Gf) {left : Lit → Bool} (h : ∀ kl, left kl = false) : sumNot G left = total (G.map (·.f)) := by
  unfold sumNot total
  rw [List.filter_eq_self.2 (fun g _ => by simp [h])]
  rw [List.map_map]
  rfl
theorem sumNot_none {G : List Gf} {left : Lit → Bool} (h : ∀ g ∈ G, left (.string g.f.name) = true) : sumNot G left = 0 := by
  unfold sumNot
  rw [List.filter_eq_nil_iff.2 (fun g hg => by simp [h g hg])]
  rfl
theorem sumNot_congr {G : List Gf} {left left' : Lit → Bool} (h : ∀ g ∈ G, left (.string g.f.name) = left' (.string g.f.name)) : sumNot G left = sumNot G left' := by
  unfold sumNot
  rw [List.filter_congr (fun g hg => by rw [h g hg])]
theorem sumNot_cons (g : Gf) (G : List Gf) (left : Lit → Bool) : sumNot (g :: G) left = (if left (.string g.f.name) then 0 else g.f.bytes.length) + sumNot G left := by
  unfold sumNot
  rw [List.filter_cons]
  cases left (.string g.f.name) <;> simp
theorem sumNot_step : ∀ {G : List Gf} {left : Lit → Bool} {g : Gf}, G.Pairwise (fun a b => a.f.name ≠ b.f.name) → g ∈ G → left (.string g.f.name) = true →
    sumNot G (fun z => left z && !z.sameKey (.string g.f.name)) = sumNot G left + g.f.bytes.length
  | x :: G, left, g, hp, hg, hl => by
    obtain ⟨h1, h2⟩ := List.pairwise_cons.1 hp
    rw [sumNot_cons, sumNot_cons]
    rcases List.mem_cons.1 hg with e | hg'
    · subst e
      have e2 : sumNot G (fun z => left z && !z.sameKey (.string g.f.name)) = sumNot G left := sumNot_congr fun y hy => by
        have := h1 y hy
        have e3 : (Lit.string y.f.name).sameKey (.string g.f.name) = false := by simp [Lit.sameKey]; exact fun e => this e.symm
        simp [e3]
      have e4 : (Lit.string g.f.name).sameKey (.string g.f.name) = true := by simp [Lit.sameKey]
      rw [e2, hl]
      simp [e4]
      omega
    · have ih := sumNot_step h2 hg' hl
      have e3 : (Lit.string x.f.name).sameKey (.string g.f.name) = false := by simp [Lit.sameKey]; exact h1 g hg'
      rw [ih]
      simp [e3]
      omega

theorem Fz.apartNames {w : World} (h : Fz q w fb mb D G dp s F) : G.Pairwise (fun a b => a.f.name ≠ b.f.name) := by
  have h1 := h.ok.rise
  rw [h.files] at h1
  exact (List.pairwise_map.1 h1).imp fun hab => lt_ne hab

/-- A round of a range over the files. -/
theorem next_files {ops : Array Oper} {rest : List Oper} {o : Oper} {a : Act} {Q : Exit → Act → World → Prop} (w : World) (hg : o.guard = none) (it : Operand) (hop : o.op = Op.next it false) (hM : MapIs D G)
    (r n : Nat) (left : Lit → Bool) (cnt : Nat) (hit : a.eval it = .pointer (some ⟨r, 0, none⟩)) (h : w.ranges Tryz.prog 9 ptrE mb r n D left cnt)
    (hDone : (∀ kl, left kl = false) → wpList Tryz.prog ops Q rest (a.put o.dst (.tuple #[.bool false])) w)
    (hMore : ∀ (x : List UInt8) (g : Gf) (w' : World) (cnt' : Nat), g ∈ G → left (.string g.f.name) = true → w'.ranges Tryz.prog 9 ptrE mb r n D (fun z => left z && !z.sameKey (.string g.f.name)) cnt' → cnt' < cnt →
      w.grownBy w' (some r) → w'.heap.size = w.heap.size → (Instr.entry (.pointer (some ⟨r, 0, none⟩))).run Tryz.prog w' = .ok (.tuple #[Go.Proofs.encStr x, .pointer (some ⟨g.blk, 0, none⟩)]) w' →
      wpList Tryz.prog ops Q rest (a.put o.dst (.tuple #[.bool true, Go.Proofs.encStr x, .pointer (some ⟨g.blk, 0, none⟩)])) w') :
    wpList Tryz.prog ops Q (o :: rest) a w := by
  refine wpList_next_ranges w hg it hop 9 (string_keyed Tryz.underlying9) ptrE Go.Proofs.encStr (fun o : Option Nat => .pointer (o.map fun b => ⟨b, 0, none⟩))
    (fun key kl hk => by obtain ⟨x, hx, _⟩ := Maps.keyOf_str Tryz.underlying9 hk; exact ⟨x, hx⟩) (fun v y hv => ptrE_shape hv) mb r n D left cnt hit h (fun _ h0 => hDone h0) ?_
  intro x c kl y w' cnt' hkey hlk hv hat hrg hlt hgr hsz hen
  have hh : Maps.has D kl = true := has_true_of_atKey hat
  obtain ⟨g, hgG, rfl⟩ := (hM.keys kl).1 hh
  have hy : y.1 = .lit (.int .i64 g.blk) := (hat .nil).symm.trans (hM.vals g hgG .nil)
  obtain ⟨y1, y2⟩ := y
  simp only at hy
  subst hy
  have hc := ptrE_some hv
  obtain rfl : c = some g.blk := by
    cases c with
    | none => cases hc
    | some b => simp at hc; rw [hc]
  exact hMore x g w' cnt' hgG hlk hrg hlt hgr hsz hen

theorem size_no (p : Option Addr) (w : World) (h : NoFs w p) : Calls Tryz.prog 72 #[.pointer p] w fun e w' => e = .returned (.int .i64 0) ∧ w = w' := by
  have C := Lib.hid (isNone_no p w h)
  clear h
  go_enter Tryz.func72, Tryz.ntmps72
  go_wp2_with (go_at_call 35; refine C.out.mono ?_; rintro e w' ⟨rfl, rfl⟩)
  go_ret
  exact ⟨rfl, rfl⟩

set_option maxHeartbeats 1000000 in
set_option maxRecDepth 100000 in
theorem size_is (w : World) (h : Fz q w fb mb D G dp s F) :
    Calls Tryz.prog 72 #[.pointer (some ⟨fb, 0, none⟩)] w fun e w' => e = .returned (.int .i64 (total s.files)) ∧ Below w.heap.size w w' := by
  have C := Lib.hid (isNone_is w h)
  have c1 := h.cells.2.1
  have H := Lib.hid h
  have hT : total (G.map (·.f)) ≤ 1048576 := by have h1 := h.ok.room; have h2 := h.ok.cap2; rw [h.files] at h1; omega
  have hM := h.isMap
  have hA := Lib.hid h.apartNames
  have hown := h.map
  clear h
  go_enter Tryz.func72, Tryz.ntmps72
  go_wp2_with (first
    | (go_at_call 35; refine C.out.mono ?_; rintro e w' ⟨rfl, rfl⟩)
    | (at_range; refine wpList_range_own _ rfl _ 62 rfl 9 82 (string_keyed Tryz.underlying9) Tryz.underlying62 ptrE mb G.length D rfl hown ?_; intro w0 hrg0 hg0 hs0))
  go_frame
  have H0 : Hid (sumNot G (Maps.has D) = 0) := Lib.hid (sumNot_none fun g hg => (hM.keys _).2 ⟨g, hg, rfl⟩)
  have hB0 : Below w.heap.size w w0 := (Below.refl _ _).grown hg0 (Nat.le_refl _) (by simp)
  clear hg0 hs0
  go_loopw [3] (fun v wr => ∃ (m cnt : Nat) (left : Lit → Bool), v = .int .i64 m ∧ m ≤ 1048576 ∧ Hid (m = sumNot G left) ∧ wr.ranges Tryz.prog 9 ptrE mb w.heap.size G.length D left cnt ∧ Below w.heap.size w wr) (fun _ wr => wr.rangeLeft mb w.heap.size)
  case atStart => exact ⟨0, _, _, rfl, by omega, Lib.hid H0.out.symm, hrg0, hB0⟩
  case round =>
    obtain ⟨m, cnt, left, rfl, hm, HM, hrg, hB⟩ := hrel
    clear hrg0 hB0 H0 c1
    go_wp2_with (at_next; refine next_files wr rfl _ rfl hM w.heap.size G.length left cnt rfl hrg ?_ ?_)
    · intro hl
      have e1 := sumNot_all G hl
      rw [← HM.out, ← H.out.files] at e1
      have HE := Lib.hid e1
      clear e1
      go_wp2
      go_ret
      exact ⟨ret_int (by rw [HE.out]), hB⟩
    · intro x g w1 cnt1 hgG hlk hrg1 hlt hg1 hs1 hen
      have HF := H.out.each g hgG
      have hB1 : Below w.heap.size w w1 := hB.grown hg1 hB.size (fun k hk => by cases hk; exact Nat.le_refl _)
      have k0 : w1.cell? ⟨g.blk, 0, none⟩ = some g.v := by rw [hB1.cell (p := ⟨g.blk, 0, none⟩) HF.blk.lt]; exact HF.blk.cell 0
      obtain ⟨A, c, hv⟩ := own_form HF.row
      rw [hv] at k0
      have e1 := sumNot_step hA.out hgG hlk
      have e2 := sumNot_le G (fun z => left z && !z.sameKey (.string g.f.name))
      rw [← HM.out] at e1
      rw [e1] at e2
      have hm2 : m + g.f.bytes.length ≤ 1048576 := by omega
      have HE := Lib.hid e1
      have HW := Lib.hid (And.intro hrg1.left_eq (And.intro hrg.left_eq hlt))
      clear e1 e2 hs1 hv hg1 hlk hrg hlt HF HM hgG
      generalize g.f.bytes.length = gl at *
      generalize g.blk = gb at *
      go_wp2
      go_roundw
      case rel => exact ⟨m + gl, cnt1, _, by go_num, hm2, Lib.hid HE.out.symm, hrg1, hB1⟩
      case measure => rw [HW.out.1, HW.out.2.1]; exact HW.out.2.2
end
end Go.Proofs.YtmknbakfjhjfmaaGreatDoor.fil

/-! Files: whether there is room. -/
namespace Go.Proofs.YtmknbakfjhjfmaaGreatDoor.fil
open Go.RowKit Go.Lib Go.Maps Go.WideMaps
set_option linter.unusedVariables false
set_option linter.unusedSimpArgs false
set_option linter.unnecessarySimpa false
set_option linter.unusedSectionVars false

section
variable {q : Bool} {F : Nat → Prop} {fb mb : Nat} {D : DataW Unit} {G : List Gf} {dp : Option Addr} {s : St}

/-- Whether a file may have so many bytes more, and be a file more, if it is one. -/
def room (s : St) (nm : List UInt8) (m : Nat) : Bool := !((find s.files nm).isNone && decide (32 ≤ s.files.length)) && decide (total s.files + m ≤ s.cap)
theorem errAppend_room (s : St) (nm : List UInt8) (m : Nat) : errAppend s nm m = if isNm nm = false then 2 else if room s nm m = false then 50 else 0 := by
  unfold errAppend room
  split
  · rfl
  · cases (find s.files nm).isNone && decide (32 ≤ s.files.length)
    · by_cases h : total s.files + m ≤ s.cap
      · simp [h, Nat.not_lt.2 h]
      · simp [h, Nat.lt_of_not_le h]
    · simp

/-- 'Below', as one word that no step opens. -/
def More (p : Nat) (wb W : World) : Prop := Below p wb W
theorem More.to {p : Nat} {wb W : World} (h : More p wb W) : Below p wb W := h

/-- What the last region of hasRoom keeps. -/
def RoomS (fb cap : Nat) (w W : World) : Prop := W.cell? ⟨fb, 0, none⟩ = some (.int .i64 cap) ∧ Below w.heap.size w W

set_option maxHeartbeats 2000000 in
set_option maxRecDepth 100000 in
theorem hasRoom_is (nm : ByteArray) (m : Nat) (w : World) (hn : nm.size ≤ maxLen) (hm : m ≤ 9223372036854775807) (h : Fz q w fb mb D G dp s F) :
    Calls Tryz.prog 46 #[.pointer (some ⟨fb, 0, none⟩), .string nm, .int .i64 m] w fun e w' => e = .returned (.bool (room s nm.data.toList m)) ∧ Below w.heap.size w w' := by
  obtain ⟨c0, c1, _⟩ := h.cells
  have hfb : fb < w.heap.size := h.head.lt
  have hcap := h.ok.cap2
  have hroom := h.ok.room
  have LL := h.map.len Tryz.underlying62 3
  have hGl : s.files.length = G.length := by rw [h.files, List.length_map]
  have C : Hid (∀ W, W.cell? ⟨fb, 0, none⟩ = some (.int .i64 s.cap) ∧ More w.heap.size w W → Calls Tryz.prog 72 #[.pointer (some ⟨fb, 0, none⟩)] W fun e w' => e = .returned (.int .i64 (total s.files)) ∧ (w'.cell? ⟨fb, 0, none⟩ = some (.int .i64 s.cap) ∧ More w.heap.size w w')) := Lib.hid fun W hW =>
    (size_is W (h.below hW.2)).mono fun e w' hh => ⟨hh.1, by
      have hz := Below.size hW.2
      exact ⟨(hh.2.cell (p := ⟨fb, 0, none⟩) (by show fb < _; omega)).trans hW.1, Below.trans hW.2 (hh.2.mono hz)⟩⟩
  have S0 : w.drew.cell? ⟨fb, 0, none⟩ = some (.int .i64 s.cap) ∧ More w.heap.size w w.drew := ⟨c0, (Below.refl _ _).drew⟩
  rw [h.isMap.size] at LL
  unfold room
  rw [hGl]
  rcases hf : find s.files nm.data.toList with _ | x
  · have L := h.look0 nm hn hf
    by_cases h32 : 32 ≤ G.length
    · have hd : decide ((32 : Int) ≤ (G.length : Int)) = true := by simp; omega
      have hd2 : decide (32 ≤ G.length) = true := by simp; omega
      rw [hd2]
      clear h hf hGl C hd2 S0
      go_enter Tryz.func46, Tryz.ntmps46
      go_wp2
      go_ret
      exact ⟨rfl, Below.refl _ _⟩
    · have hd : decide ((32 : Int) ≤ (G.length : Int)) = false := by simp; omega
      have hd2 : decide (32 ≤ G.length) = false := by simp; omega
      rw [hd2]
      clear h hf hGl hd2
      generalize hT : total s.files = T at *
      clear hT
      go_enter Tryz.func46, Tryz.ntmps46
      go_wp2
      obtain ⟨S1, S2⟩ := S0
      go_region_held3 (fun W => W.cell? ⟨fb, 0, none⟩ = some (.int .i64 s.cap) ∧ More w.heap.size w W) (first | assumption | exact ⟨by assumption, by assumption⟩)
        (first
          | (go_at_call 72; refine (C.out _ ?_).mono ?_; (assumption); rintro e w' ⟨rfl, hS⟩))
      rename_i hS
      have hE : Below w.heap.size w _ := hS.2
      clear S1 S2
      go_wp2
      go_ret
      have hwr : IntKind.i64.wrap ((s.cap : Int) - (T : Int)) = (s.cap : Int) - (T : Int) := IntWalk.i64_in _ (by omega)
      exact ⟨ret_bool (by rw [hwr]; simp; omega), hE⟩
  · obtain ⟨g, hg, rfl, he⟩ := h.has hf
    have L := h.look1 nm hn hg he
    clear h hf he hg hGl
    generalize hT : total s.files = T at *
    clear hT
    go_enter Tryz.func46, Tryz.ntmps46
    go_wp2
    obtain ⟨S1, S2⟩ := S0
    go_region_held3 (fun W => W.cell? ⟨fb, 0, none⟩ = some (.int .i64 s.cap) ∧ More w.heap.size w W) (first | assumption | exact ⟨by assumption, by assumption⟩)
      (first
        | (go_at_call 72; refine (C.out _ ?_).mono ?_; (assumption); rintro e w' ⟨rfl, hS⟩))
    rename_i hS
    have hE : Below w.heap.size w _ := hS.2
    clear S1 S2
    go_wp2
    go_ret
    have hwr : IntKind.i64.wrap ((s.cap : Int) - (T : Int)) = (s.cap : Int) - (T : Int) := IntWalk.i64_in _ (by omega)
    exact ⟨ret_bool (by rw [hwr]; simp; omega), hE⟩
end
end Go.Proofs.YtmknbakfjhjfmaaGreatDoor.fil

/-! Files: what a file system's blocks are behind a step that turns them. -/
namespace Go.Proofs.YtmknbakfjhjfmaaGreatDoor.fil
open Go.RowKit Go.Lib Go.Maps Go.WideMaps
set_option linter.unusedVariables false
set_option linter.unusedSimpArgs false
set_option linter.unnecessarySimpa false
set_option linter.unusedSectionVars false

theorem map_tight {w : World} {b n : Nat} {D : DataW Unit} (h : w.ownsMap Tryz.prog 9 ptrE b n D) : w.ownsMap Tryz.prog 9 ptrE b (Maps.size D) D := by
  obtain ⟨es, clock, hb, hF, _, rfl⟩ := h
  refine ⟨es, clock, hb, hF, ?_, rfl⟩
  simp [Maps.size, length_sorted]
theorem map_size {w : World} {b n m : Nat} {D : DataW Unit} (h : w.ownsMap Tryz.prog 9 ptrE b n D) (hm : Maps.size D = m) : w.ownsMap Tryz.prog 9 ptrE b m D := hm ▸ map_tight h

/-- The blocks that there were, and those that are new. -/
def Plus (F : Nat → Prop) (w w' : World) (b : Nat) : Prop := F b ∨ (w.heap.size ≤ b ∧ b < w'.heap.size)
theorem Plus.old {F : Nat → Prop} {w w' : World} {b : Nat} (h : F b) : Plus F w w' b := .inl h

section
variable {q q' : Bool} {w w' : World} {F F' : Nat → Prop} {fb mb : Nat} {D : DataW Unit} {G : List Gf} {dp dp' : Option Addr} {s s' : St}

theorem Plus.lt (h : Fz q w fb mb D G dp s F) (hs : w.heap.size ≤ w'.heap.size) : ∀ b, Plus F w w' b → b < w'.heap.size := fun b hb => hb.elim (fun hf => Nat.lt_of_lt_of_le (h.lt b hf) hs) (fun hb => hb.2)

theorem Fz.neBlk (h : Fz q w fb mb D G dp s F) {g : Gf} (hg : g ∈ G) : g.blk ≠ fb := (h.each g hg).blk.ne h.head (by decide)
theorem Fz.neMap (h : Fz q w fb mb D G dp s F) : fb ≠ mb := h.head.ne_map h.map
theorem Fz.neBlkMap (h : Fz q w fb mb D G dp s F) {g : Gf} (hg : g ∈ G) : g.blk ≠ mb := (h.each g hg).blk.ne_map h.map
theorem Fz.neRow (h : Fz q w fb mb D G dp s F) {g : Gf} (hg : g ∈ G) : g.v.ownBlock ≠ some fb := own_ne (h.each g hg).row h.head (by decide)
theorem Fz.neRowBlk (h : Fz q w fb mb D G dp s F) {g x : Gf} (hg : g ∈ G) (hx : x ∈ G) : g.v.ownBlock ≠ some x.blk := own_ne (h.each g hg).row (h.each x hx).blk (by decide)
theorem Fz.neRowMap (h : Fz q w fb mb D G dp s F) {g : Gf} (hg : g ∈ G) : g.v.ownBlock ≠ some mb := fun e => by
  obtain ⟨cs, hc⟩ := own_at (h.each g hg).row e
  exact hc.ne_map h.map rfl
theorem Fz.one (h : Fz q w fb mb D G dp s F) {g x : Gf} (hg : g ∈ G) (hx : x ∈ G) (e : g.blk = x.blk) : g = x := by
  have hp := h.apart
  clear h
  induction G with
  | nil => cases hg
  | cons y G ih =>
    obtain ⟨h1, h2⟩ := List.pairwise_cons.1 hp
    rcases List.mem_cons.1 hg with eg | hg' <;> rcases List.mem_cons.1 hx with ex | hx'
    · rw [eg, ex]
    · exact absurd (eg ▸ e) (h1 x hx').1
    · exact absurd (ex ▸ e.symm) (h1 g hg').1
    · exact ih hg' hx' h2
theorem Fz.rows (h : Fz q w fb mb D G dp s F) {g x : Gf} (hg : g ∈ G) (hx : x ∈ G) (hne : g.blk ≠ x.blk) {b : Nat} (hb : g.v.ownBlock = some b) : x.v.ownBlock ≠ some b := by
  have hp := h.apart
  clear h
  induction G with
  | nil => cases hg
  | cons y G ih =>
    obtain ⟨h1, h2⟩ := List.pairwise_cons.1 hp
    rcases List.mem_cons.1 hg with eg | hg' <;> rcases List.mem_cons.1 hx with ex | hx'
    · rw [eg, ex] at hne; exact absurd rfl hne
    · exact (h1 x hx').2 b (eg ▸ hb)
    · intro hb2
      exact (h1 g hg').2 b (ex ▸ hb2) hb
    · exact ih hg' hx' h2

/-- The head block alone has turned (and what is due). -/
theorem Fz.turnHead (h : Fz q w fb mb D G dp s F) (hF : ∀ b, F b → F' b) (hlt : ∀ b, F' b → b < w'.heap.size) (hb : ∀ b t cs, At w b t cs → t = 5 ∨ t = 85 → w'.heap[b]? = w.heap[b]?) (hm : w'.heap[mb]? = w.heap[mb]?)
    (hh : At w' fb 65 #[.int .i64 s'.cap, .map (some mb), .bool s'.off, .int .i64 s'.starts, .pointer dp']) (hf : s'.files = s.files) (hd : DueAt q' w' F' dp' s'.due) (ho : Ok s') : Fz q' w' fb mb D G dp' s' F' := by
  refine ⟨ho, hh, map_same h.map hm, h.isMap, hf.trans h.files, fun g hg => ?_, h.apart, hd, hF _ h.mineF, hF _ h.mineM, hlt⟩
  have hg' := h.each g hg
  refine ⟨hg'.blk.same (hb _ _ _ hg'.blk (.inr rfl)), hF _ hg'.mine, own_same hg'.row (fun x e => ?_), fun x e => hF x (hg'.rowMine x e)⟩
  obtain ⟨cs, hc⟩ := own_at hg'.row e
  exact hb x _ _ hc (.inl rfl)

def rep (g g' : Gf) (G : List Gf) : List Gf := G.map fun x => if x.blk = g.blk then g' else x
theorem mem_rep (h : Fz q w fb mb D G dp s F) {g g' x : Gf} (hg : g ∈ G) : x ∈ rep g g' G ↔ x = g' ∨ (x ∈ G ∧ x.blk ≠ g.blk) := by
  unfold rep
  rw [List.mem_map]
  constructor
  · rintro ⟨y, hy, rfl⟩
    by_cases e : y.blk = g.blk
    · rw [if_pos e]; exact .inl rfl
    · rw [if_neg e]; exact .inr ⟨hy, e⟩
  · rintro (rfl | ⟨hx, hne⟩)
    · exact ⟨g, hg, if_pos rfl⟩
    · exact ⟨x, hx, if_neg hne⟩
theorem rep_names (h : Fz q w fb mb D G dp s F) {g g' : Gf} (hg : g ∈ G) (hn : g'.f.name = g.f.name) : (rep g g' G).map (fun x => x.f.name) = G.map (fun x => x.f.name) := by
  unfold rep
  rw [List.map_map]
  refine List.map_congr_left fun x hx => ?_
  show (if x.blk = g.blk then g' else x).f.name = x.f.name
  by_cases e : x.blk = g.blk
  · rw [if_pos e, hn, h.one hx hg e]
  · rw [if_neg e]
theorem rep_files (h : Fz q w fb mb D G dp s F) {g g' : Gf} (hg : g ∈ G) (hn : g'.f.name = g.f.name) : (rep g g' G).map (·.f) = ins s.files g'.f := by
  have hr : Rise ((rep g g' G).map (·.f)) := by
    rw [rise_names, List.map_map]
    have e := rep_names h hg hn
    have h2 := rise_names.1 h.ok.rise
    rw [h.files, List.map_map] at h2
    exact e ▸ h2
  refine rise_ext hr (rise_ins h.ok.rise _) ?_
  refine (List.perm_ext_iff_of_nodup (hr.imp fun hab e => lt_ne hab (congrArg Fl.name e)) ((rise_ins h.ok.rise _).imp fun hab e => lt_ne hab (congrArg Fl.name e))).2 fun z => ?_
  rw [mem_ins, List.mem_map, h.files]
  constructor
  · rintro ⟨x, hx, rfl⟩
    rcases (mem_rep h hg).1 hx with rfl | ⟨hx, hne⟩
    · exact .inl rfl
    · refine .inr ⟨List.mem_map_of_mem hx, fun e => hne ?_⟩
      rw [hn] at e
      have h3 := h.apartNames
      by_cases hc : x = g
      · rw [hc]
      · exfalso
        refine hc ?_
        clear hc hne hr
        induction G with
        | nil => cases hx
        | cons y G ih =>
          obtain ⟨h1, h2⟩ := List.pairwise_cons.1 h3
          rcases List.mem_cons.1 hg with eg | hg' <;> rcases List.mem_cons.1 hx with ex | hx'
          · rw [eg, ex]
          · exact absurd (eg ▸ e.symm) (h1 x hx')
          · exact absurd (ex ▸ e) (h1 g hg')
          · exact (by
              have : ∀ {l : List Gf}, l.Pairwise (fun a b => a.f.name ≠ b.f.name) → g ∈ l → x ∈ l → x = g := by
                intro l
                induction l with
                | nil => intro _ hg; cases hg
                | cons y l ih =>
                  intro hp hg hx
                  obtain ⟨h1, h2⟩ := List.pairwise_cons.1 hp
                  rcases List.mem_cons.1 hg with eg | hg' <;> rcases List.mem_cons.1 hx with ex | hx'
                  · rw [eg, ex]
                  · exact absurd (eg ▸ e.symm) (h1 x hx')
                  · exact absurd (ex ▸ e) (h1 g hg')
                  · exact ih h2 hg' hx'
              exact this h2 hg' hx')
  · rintro (rfl | ⟨hz, hne⟩)
    · exact ⟨g', (mem_rep h hg).2 (.inl rfl), rfl⟩
    · obtain ⟨x, hx, rfl⟩ := List.mem_map.1 hz
      refine ⟨x, (mem_rep h hg).2 (.inr ⟨hx, fun e => hne ?_⟩), rfl⟩
      rw [h.one hx hg e, hn]

/-- One file alone has turned: its block, its row. -/
theorem Fz.turnFile (h : Fz q w fb mb D G dp s F) {g g' : Gf} (hg : g ∈ G) (hn : g'.f.name = g.f.name) (hbk : g'.blk = g.blk) (hs : w.heap.size ≤ w'.heap.size)
    (hb : ∀ b, b < w.heap.size → b ≠ g.blk → g.v.ownBlock ≠ some b → w'.heap[b]? = w.heap[b]?)
    (h1 : At w' g.blk 85 #[g'.v, .int .i64 g'.f.plat]) (h2 : w'.ownsRow 0 5 1 g'.v g'.f.bytes.length (bv g'.f.bytes))
    (h3 : ∀ b, g'.v.ownBlock = some b → g.v.ownBlock = some b ∨ w.heap.size ≤ b) (ho : OkF s.cap (ins s.files g'.f)) :
    Fz q w' fb mb D (rep g g' G) dp { s with files := ins s.files g'.f } (Plus F w w') := by
  have hrow : ∀ x ∈ G, x.blk ≠ g.blk → ∀ b, x.v.ownBlock = some b → w'.heap[b]? = w.heap[b]? := fun x hx hne b e =>
    hb b (h.lt b ((h.each x hx).rowMine b e)) (fun e2 => h.neRowBlk hx hg (by rw [e, e2])) (fun e2 => h.rows hg hx (Ne.symm hne) e2 e)
  refine ⟨h.ok.set ho _ _ _ h.ok.due, h.head.same (hb fb h.head.lt (fun e => h.neBlk hg e.symm) (h.neRow hg)), ?_, ?_, (rep_files h hg hn).symm, ?_, ?_, ?_, .inl h.mineF, .inl h.mineM, Plus.lt h hs⟩
  · unfold rep; rw [List.length_map]
    exact map_same h.map (hb mb (h.lt _ h.mineM) (fun e => h.neBlkMap hg e.symm) (h.neRowMap hg))
  · refine ⟨fun kl => ?_, fun x hx z => ?_, by unfold rep; rw [List.length_map]; exact h.isMap.size⟩
    · rw [h.isMap.keys]
      constructor
      · rintro ⟨x, hx, rfl⟩
        by_cases e : x.blk = g.blk
        · exact ⟨g', (mem_rep h hg).2 (.inl rfl), by rw [hn, h.one hx hg e]⟩
        · exact ⟨x, (mem_rep h hg).2 (.inr ⟨hx, e⟩), rfl⟩
      · rintro ⟨x, hx, rfl⟩
        rcases (mem_rep h hg).1 hx with rfl | ⟨hx, _⟩
        · exact ⟨g, hg, by rw [hn]⟩
        · exact ⟨x, hx, rfl⟩
    · rcases (mem_rep h hg).1 hx with rfl | ⟨hx, _⟩
      · rw [hn, hbk]; exact h.isMap.vals g hg z
      · exact h.isMap.vals x hx z
  · intro x hx
    rcases (mem_rep h hg).1 hx with rfl | ⟨hx, hne⟩
    · refine ⟨by rw [hbk]; exact h1, by rw [hbk]; exact .inl (h.each g hg).mine, h2, fun b e => ?_⟩
      rcases h3 b e with h4 | h4
      · exact .inl ((h.each g hg).rowMine b h4)
      · exact .inr ⟨h4, (h2.lt b e).2⟩
    · have hx' := h.each x hx
      exact ⟨hx'.blk.same (hb _ hx'.blk.lt hne (h.neRowBlk hg hx)), .inl hx'.mine, own_same hx'.row (hrow x hx hne), fun b e => .inl (hx'.rowMine b e)⟩
  · have hp := h.apart
    refine List.pairwise_map.2 (hp.imp_of_mem fun {x y} hx hy hxy => ?_)
    by_cases ex : x.blk = g.blk <;> by_cases ey : y.blk = g.blk
    · exact absurd (ex.trans ey.symm) hxy.1
    · rw [if_pos ex, if_neg ey]
      refine ⟨by rw [hbk]; exact Ne.symm ey, fun b e e2 => ?_⟩
      rcases h3 b e with h4 | h4
      · exact h.rows hg hy (Ne.symm ey) h4 e2
      · have := h.lt b ((h.each y hy).rowMine b e2); omega
    · rw [if_neg ex, if_pos ey]
      refine ⟨by rw [hbk]; exact ex, fun b e e2 => ?_⟩
      rcases h3 b e2 with h4 | h4
      · exact h.rows hg hx (Ne.symm ex) h4 e
      · have := h.lt b ((h.each x hx).rowMine b e); omega
    · rw [if_neg ex, if_neg ey]; exact hxy
  · refine (h.due.kept (w' := w') fun b t cs hA ht => hb b hA.lt (fun e => ?_) (fun e => ?_)).mono fun b hF => .inl hF
    · subst e
      exact (hA.ne (h.each g hg).blk (by rcases ht with rfl | rfl <;> decide)) rfl
    · exact own_ne (h.each g hg).row hA (by rcases ht with rfl | rfl <;> decide) e

/-- The map has turned, and which files there are. -/
theorem Fz.turnMap (h : Fz q w fb mb D G dp s F) {D' : DataW Unit} {G' : List Gf} {n : Nat} (hs : w.heap.size ≤ w'.heap.size) (hb : ∀ b, b < w.heap.size → b ≠ mb → w'.heap[b]? = w.heap[b]?)
    (hm : w'.ownsMap Tryz.prog 9 ptrE mb n D') (hM : MapIs D' G') (he : ∀ g ∈ G', FileAt w' (Plus F w w') g)
    (ha : G'.Pairwise fun a b => a.blk ≠ b.blk ∧ ∀ x, a.v.ownBlock = some x → b.v.ownBlock ≠ some x) {l : List Fl} (hl : l = G'.map (·.f)) (ho : OkF s.cap l) :
    Fz q w' fb mb D' G' dp { s with files := l } (Plus F w w') :=
  ⟨h.ok.set ho _ _ _ h.ok.due, h.head.same (hb fb h.head.lt h.neMap), map_size hm hM.size, hM, hl, he, ha,
    (h.due.kept (w' := w') fun b t cs hA _ => hb b hA.lt (hA.ne_map h.map)).mono fun b hF => .inl hF, .inl h.mineF, .inl h.mineM, Plus.lt h hs⟩
/-- A file stays while the map alone turns. -/
theorem Fz.stays (h : Fz q w fb mb D G dp s F) (hb : ∀ b, b < w.heap.size → b ≠ mb → w'.heap[b]? = w.heap[b]?) {g : Gf} (hg : g ∈ G) : FileAt w' (Plus F w w') g :=
  ((h.each g hg).kept (hb _ (h.each g hg).blk.lt (h.neBlkMap hg)) (fun b e => hb b (h.lt b ((h.each g hg).rowMine b e)) (fun e2 => h.neRowMap hg (by rw [e, e2])))).mono fun b hF => .inl hF
/-- Without the file of a name. -/
theorem Fz.without (h : Fz q w fb mb D G dp s F) (nm : List UInt8) (hs : w.heap.size ≤ w'.heap.size) (hb : ∀ b, b < w.heap.size → b ≠ mb → w'.heap[b]? = w.heap[b]?) {n : Nat}
    (hm : w'.ownsMap Tryz.prog 9 ptrE mb n (D.del (.string nm))) : Fz q w' fb mb (D.del (.string nm)) (G.filter fun g => !(g.f.name == nm)) dp { s with files := del s.files nm } (Plus F w w') := by
  have hl : del s.files nm = (G.filter fun g => !(g.f.name == nm)).map (·.f) := by
    unfold del
    rw [h.files, List.filter_map]
    rfl
  refine h.turnMap hs hb hm (h.isMap.other nm (h.map.tidy (string_keyed Tryz.underlying9)) (fun g => by simp) ?_) (fun g hg => h.stays hb (List.mem_filter.1 hg).1) (h.apart.filter _) hl (okf_del h.ok.f nm)
  have e : (G.filter fun g => !(g.f.name == nm)).length = (del s.files nm).length := by rw [hl, List.length_map]
  rw [e]
  rcases hf : find s.files nm with _ | x
  · rw [del_none hf, h.files, List.length_map, h.isMap.miss (fun g hg e => find_none.1 hf g.f (by rw [h.files]; exact List.mem_map_of_mem hg) e)]
    simp
  · have h1 := length_del h.ok.rise hf
    rw [h.files, List.length_map] at h1
    obtain ⟨g, hg, rfl, he⟩ := h.has hf
    rw [(h.isMap.keys _).2 ⟨g, hg, by rw [he]⟩]
    simp
    rw [← h.files] at h1
    omega
def insG (G : List Gf) (g : Gf) : List Gf := (G.filter fun x => decide (x.f.name < g.f.name)) ++ g :: G.filter fun x => decide (g.f.name < x.f.name)
theorem insG_files (G : List Gf) (g : Gf) : (insG G g).map (·.f) = ins (G.map (·.f)) g.f := by
  unfold insG ins
  rw [List.map_append, List.map_cons, List.filter_map, List.filter_map]
  rfl
theorem mem_insG {G : List Gf} {g x : Gf} (hx : x ∈ insG G g) : x = g ∨ (x ∈ G ∧ x.f.name ≠ g.f.name) := by
  unfold insG at hx
  rcases List.mem_append.1 hx with hx | hx
  · obtain ⟨h1, h2⟩ := List.mem_filter.1 hx
    exact .inr ⟨h1, lt_ne (by simpa using h2)⟩
  · rcases List.mem_cons.1 hx with rfl | hx
    · exact .inl rfl
    · obtain ⟨h1, h2⟩ := List.mem_filter.1 hx
      exact .inr ⟨h1, Ne.symm (lt_ne (by simpa using h2))⟩
theorem insG_mem {G : List Gf} {g x : Gf} (hx : x = g ∨ (x ∈ G ∧ x.f.name ≠ g.f.name)) : x ∈ insG G g := by
  unfold insG
  rcases hx with rfl | ⟨h1, h2⟩
  · exact List.mem_append.2 (.inr (List.mem_cons.2 (.inl rfl)))
  · by_cases h : x.f.name < g.f.name
    · exact List.mem_append.2 (.inl (List.mem_filter.2 ⟨h1, by simpa using h⟩))
    · refine List.mem_append.2 (.inr (List.mem_cons.2 (.inr (List.mem_filter.2 ⟨h1, ?_⟩))))
      by_cases h3 : g.f.name < x.f.name
      · simpa using h3
      · exact absurd (lt_tri _ _ h h3) h2
/-- With a file more, or another one of its name: a file of a block of its own. -/
theorem Fz.withFile (h : Fz q w fb mb D G dp s F) (g : Gf) (hs : w.heap.size ≤ w'.heap.size) (hb : ∀ b, b < w.heap.size → b ≠ mb → w'.heap[b]? = w.heap[b]?) {n : Nat}
    (hm : w'.ownsMap Tryz.prog 9 ptrE mb n (D.put (.string g.f.name) (.lit (.int .i64 g.blk)))) (hg : FileAt w' (Plus F w w') g)
    (hne : ∀ x ∈ G, x.f.name ≠ g.f.name → g.blk ≠ x.blk ∧ ∀ b, g.v.ownBlock = some b → x.v.ownBlock ≠ some b) (ho : OkF s.cap (ins s.files g.f)) :
    Fz q w' fb mb (D.put (.string g.f.name) (.lit (.int .i64 g.blk))) (insG G g) dp { s with files := ins s.files g.f } (Plus F w w') := by
  have hl : ins s.files g.f = (insG G g).map (·.f) := by rw [insG_files, h.files]
  refine h.turnMap hs hb hm (h.isMap.put (h.map.tidy (string_keyed Tryz.underlying9)) g (fun x => ⟨mem_insG, insG_mem⟩) ?_) (fun x hx => ?_) ?_ hl ho
  · have e : (insG G g).length = (ins s.files g.f).length := by rw [hl, List.length_map]
    rw [e, length_ins]
    rcases hf : find s.files g.f.name with _ | x
    · rw [del_none hf, h.files, List.length_map, h.isMap.miss (fun y hy e => find_none.1 hf y.f (by rw [h.files]; exact List.mem_map_of_mem hy) e)]
      simp
      omega
    · have h1 := length_del h.ok.rise hf
      obtain ⟨y, hy, rfl, he⟩ := h.has hf
      rw [(h.isMap.keys _).2 ⟨y, hy, by rw [he]⟩]
      simp
      have h2 : s.files.length = G.length := by rw [h.files, List.length_map]
      omega
  · rcases mem_insG hx with rfl | ⟨hx, _⟩
    · exact hg
    · exact h.stays hb hx
  · unfold insG
    have hp := h.apart
    refine List.pairwise_append.2 ⟨hp.filter _, List.pairwise_cons.2 ⟨fun x hx => ?_, hp.filter _⟩, fun x hx y hy => ?_⟩
    · obtain ⟨h1, h2⟩ := List.mem_filter.1 hx
      exact hne x h1 (Ne.symm (lt_ne (by simpa using h2)))
    · obtain ⟨h1, h2⟩ := List.mem_filter.1 hx
      have hxg : x.f.name < g.f.name := by simpa using h2
      rcases List.mem_cons.1 hy with rfl | hy
      · obtain ⟨h3, h4⟩ := hne x h1 (lt_ne hxg)
        exact ⟨Ne.symm h3, fun b e e2 => h4 b e2 e⟩
      · obtain ⟨h3, h4⟩ := List.mem_filter.1 hy
        have hgy : g.f.name < y.f.name := by simpa using h4
        have hxy : x.f.name ≠ y.f.name := lt_ne (lt_tr hxg hgy)
        have hbk : x.blk ≠ y.blk := fun e => hxy (by rw [h.one h1 h3 e])
        exact ⟨hbk, fun b e => h.rows h1 h3 hbk e⟩
end
end Go.Proofs.YtmknbakfjhjfmaaGreatDoor.fil
