/- Classes: functions that say of a byte whether it is one of these: span, oneOf, and what they make. -/
import Derived.Test.YtmemdmjfccepgaaClsArr
namespace Go.Proofs.Ytmemdmjfccepgaa.cls
open Go.RowKit Go.Lib
set_option linter.unusedVariables false
set_option linter.unusedSimpArgs false
set_option linter.unnecessarySimpa false
set_option linter.unusedSectionVars false

theorem new_at (w : World) (o : Obj) : (w.alloc o).heap[w.heap.size]? = some o := by unfold World.alloc; simp
theorem old_at {w : World} {b : Nat} {x : Obj} (h : w.heap[b]? = some x) (o : Obj) : (w.alloc o).heap[b]? = some x := (Below.heap_alloc w o b (Array.getElem?_eq_some_iff.1 h).1).trans h
/-- The rows of w from block n on stand in W. -/
structure Kp (n : Nat) (w W : World) : Prop where
  size : w.heap.size ≤ W.heap.size
  cells : ∀ b, n ≤ b → ∀ c t, w.heap[b]? = some (.cells c t) → W.heap[b]? = some (.cells c t)
theorem Kp.refl (n : Nat) (w : World) : Kp n w w := ⟨Nat.le_refl _, fun _ _ _ _ h => h⟩
theorem Kp.trans {n : Nat} {a b c : World} (h : Kp n a b) (k : Kp n b c) : Kp n a c := ⟨Nat.le_trans h.size k.size, fun i hi c t hc => k.cells i hi c t (h.cells i hi c t hc)⟩
theorem Kp.mono {n m : Nat} {a b : World} (h : Kp n a b) (hm : n ≤ m) : Kp m a b := ⟨h.size, fun i hi => h.cells i (by omega)⟩
theorem Kp.of_below {n : Nat} {a b : World} (h : Below a.heap.size a b) : Kp n a b := ⟨h.size, fun i _ c t hc => (h.block i (Array.getElem?_eq_some_iff.1 hc).1).trans hc⟩
theorem Kp.drew {n : Nat} {a b : World} (h : Kp n a b) : Kp n a b.drew := ⟨h.size, h.cells⟩
theorem Kp.drewN {n : Nat} {a b : World} (h : Kp n a b) (q : Nat) : Kp n a (b.drewN q) := ⟨h.size, h.cells⟩
theorem Kp.alloc {n : Nat} {a b : World} (h : Kp n a b) (o : Obj) : Kp n a (b.alloc o) := h.trans (Kp.of_below ((Below.refl _ _).alloc (Nat.le_refl _) o))

/-- The value v is a function that says of a byte whether f has it, as long as the rows from block n on stand. -/
def FnIs (n : Nat) (w : World) (v : Value) (f : Nat → Bool) : Prop :=
  ∃ k cs, v = .func (.func k) #[] cs ∧ (∀ (c : Value) W, (callFunc k (#[c] ++ cs)).run Try.prog W = .ok (.enter k (#[c] ++ cs)) W) ∧
    ∀ W, Kp n w W → ∀ c : Nat, c < 256 → Calls Try.prog k (#[.int .u8 (c : Int)] ++ cs) W fun e w' => e = .returned (.bool (f c)) ∧ ∃ q, w' = W.drewN q
theorem FnIs.kp {n : Nat} {w w' : World} {v : Value} {f : Nat → Bool} (h : FnIs n w v f) (hk : Kp n w w') : FnIs n w' v f := by
  obtain ⟨k, cs, hv, hf, hc⟩ := h
  exact ⟨k, cs, hv, hf, fun W hW => hc W (hk.trans hW)⟩
theorem FnIs.mono {n m : Nat} {w : World} {v : Value} {f : Nat → Bool} (h : FnIs n w v f) (hm : m ≤ n) : FnIs m w v f := by
  obtain ⟨k, cs, hv, hf, hc⟩ := h
  exact ⟨k, cs, hv, hf, fun W hW => hc W (hW.mono hm)⟩
theorem FnIs.eq {n : Nat} {w : World} {v : Value} {f g : Nat → Bool} (h : FnIs n w v f) (e : ∀ c, f c = g c) : FnIs n w v g := by
  have : f = g := funext e
  rw [← this]; exact h

set_option maxHeartbeats 1000000 in
set_option maxRecDepth 100000 in
theorem spanF (w : World) (b1 b2 a b c : Nat) (h1 : w.cell? ⟨b1, 0, none⟩ = some (.int .u8 (a : Int))) (h2 : w.cell? ⟨b2, 0, none⟩ = some (.int .u8 (b : Int))) :
    Calls Try.prog 37 #[.int .u8 (c : Int), .pointer (some ⟨b1, 0, none⟩), .pointer (some ⟨b2, 0, none⟩)] w fun e w' => e = .returned (.bool (btw a b c)) ∧ w' = w := by
  by_cases h : a ≤ c
  · have e : btw a b c = decide (c ≤ b) := by simp [btw, h]
    rw [e]
    clear e
    go_enter Try.func37, Try.ntmps37
    go_wp2
    go_ret
    exact ⟨rfl, rfl⟩
  · have e : btw a b c = false := by simp [btw, h]
    rw [e]
    clear e
    go_enter Try.func37, Try.ntmps37
    go_wp2
    go_ret
    exact ⟨rfl, rfl⟩

set_option maxHeartbeats 1000000 in
set_option maxRecDepth 100000 in
theorem span_is (w : World) (a b n : Nat) (hn : n ≤ w.heap.size) :
    Calls Try.prog 29 #[.int .u8 (a : Int), .int .u8 (b : Int)] w fun e w' => ∃ v, e = .returned v ∧ FnIs n w' v (btw a b) ∧ Below w.heap.size w w' := by
  have HN := Lib.hid hn
  clear hn
  go_enter Try.func29, Try.ntmps29
  go_wp2
  go_ret
  refine ⟨_, rfl, ⟨_, _, rfl, fun c W => rfl, fun W hW c hc => ?_⟩, ((Below.refl _ w).alloc (Nat.le_refl _) _).alloc (by simp) _⟩
  have hn := HN.out
  have h1 := hW.cells w.heap.size hn #[.int .u8 (a : Int)] 5 (old_at (new_at w _) _)
  have h2 := hW.cells (w.heap.size + 1) (by omega) #[.int .u8 (b : Int)] 5 (by have := new_at (w.alloc (.cells #[.int .u8 (a : Int)] 5)) (.cells #[.int .u8 (b : Int)] 5); rwa [show (w.alloc (.cells #[.int .u8 (a : Int)] 5)).heap.size = w.heap.size + 1 by simp] at this)
  exact (spanF W w.heap.size (w.heap.size + 1) a b c (by simp [World.cell?, h1]) (by simp [World.cell?, h2])).mono fun e w' ⟨he, hw⟩ => ⟨he, 0, hw⟩

/-- In one of them at least. -/
def anyF (fs : List (Nat → Bool)) : Nat → Bool := fun c => fs.any fun f => f c

set_option maxHeartbeats 1000000 in
set_option maxRecDepth 100000 in
theorem oneF (n : Nat) (w : World) (b1 r c : Nat) (vs : List Value) (fs : List (Nat → Bool)) (hl : vs.length = fs.length) (hs : vs.length ≤ 1000) (h1 : w.cell? ⟨b1, 0, none⟩ = some (.slice (some ⟨r, 0, none⟩) vs.length vs.length))
    (h2 : ∀ (i : Nat) (v : Value), vs[i]? = some v → w.cell? ⟨r, i, none⟩ = some v) (h3 : ∀ (i : Nat) (v : Value) (f : Nat → Bool), vs[i]? = some v → fs[i]? = some f → FnIs n w v f) (hc : c < 256) :
    Calls Try.prog 38 #[.int .u8 (c : Int), .pointer (some ⟨b1, 0, none⟩)] w fun e w' => e = .returned (.bool (anyF fs c)) ∧ ∃ q, w' = w.drewN q := by
  obtain ⟨m, hm⟩ : ∃ m, vs.length = m := ⟨_, rfl⟩
  have H2 := Lib.hid h2
  have H3 := Lib.hid h3
  have HM := Lib.hid hm
  have HL := Lib.hid hl
  have HC := Lib.hid hc
  rw [hm] at h1 hs
  clear h2 h3 hl hm hc
  go_enter Try.func38, Try.ntmps38
  go_wp2
  go_loopg [8] m (fun g s8 wr => ∃ (k q : Nat), s8 = .int .i64 k ∧ k ≤ m ∧ m - k ≤ g ∧ wr = w.drewN q ∧ Hid (∀ i, i < k → ∀ f, fs[i]? = some f → f c = false))
  case atStart => exact ⟨0, 0, rfl, Nat.zero_le _, by omega, rfl, Lib.hid fun i hi => by omega⟩
  case round =>
    obtain ⟨k, q, rfl, hk, hg, rfl, HI⟩ := hrel
    by_cases hlt : k < m
    · obtain ⟨v, hv⟩ : ∃ v, vs[k]? = some v := ⟨_, List.getElem?_eq_getElem (by rw [HM.out]; exact hlt)⟩
      obtain ⟨f, hf⟩ : ∃ f, fs[k]? = some f := ⟨_, List.getElem?_eq_getElem (by rw [← HL.out, HM.out]; exact hlt)⟩
      have k0 := H2.out k v hv
      obtain ⟨kf, cs, rfl, f0, C⟩ := H3.out k v f hv hf
      have C1 := Lib.hid (C (w.drewN q) ((Kp.refl n w).drewN q) c HC.out)
      have HF := Lib.hid hf
      clear C hv hf
      cases hfc : f c with
      | true =>
        rw [hfc] at C1
        have HFC := Lib.hid hfc
        clear hfc
        go_wp2
        refine C1.out.mono ?_
        rintro e w2 ⟨rfl, q2, rfl⟩
        go_wp2
        go_ret
        refine ⟨?_, q + q2, by simp [World.drewN]⟩
        have : anyF fs c = true := by
          unfold anyF
          rw [List.any_eq_true]
          exact ⟨f, List.mem_of_getElem? HF.out, HFC.out⟩
        rw [this]
        rfl
      | false =>
        rw [hfc] at C1
        have HFC := Lib.hid hfc
        clear hfc
        go_wp2
        refine C1.out.mono ?_
        rintro e w2 ⟨rfl, q2, rfl⟩
        go_wp2
        go_roundg (m - (k + 1))
        case measure => omega
        case rel =>
          refine ⟨k + 1, q + q2, by go_num, by omega, by omega, by simp [World.drewN], Lib.hid fun i hi g hg' => ?_⟩
          by_cases e : i = k
          · subst e
            have := HF.out
            rw [hg'] at this
            injection this with this
            rw [this]; exact HFC.out
          · exact HI.out i (by omega) g hg'
    · obtain rfl : k = m := by omega
      go_wp2
      go_ret
      refine ⟨?_, q, rfl⟩
      have : anyF fs c = false := by
        unfold anyF
        rw [List.any_eq_false]
        intro f hf
        obtain ⟨i, hi⟩ := List.getElem?_of_mem hf
        have := HI.out i (by have := (List.getElem?_eq_some_iff.1 hi).1; have := HL.out; have := HM.out; omega) f hi
        simp [this]
      rw [this]
      rfl

set_option maxHeartbeats 1000000 in
set_option maxRecDepth 100000 in
theorem oneOf_is (w : World) (n r : Nat) (vs : List Value) (fs : List (Nat → Bool)) (hn : n ≤ w.heap.size) (hr : n ≤ r) (hl : vs.length = fs.length) (hs : vs.length ≤ 1000) (h2 : w.heap[r]? = some (.cells vs.toArray 35))
    (h3 : ∀ (i : Nat) (v : Value) (f : Nat → Bool), vs[i]? = some v → fs[i]? = some f → FnIs n w v f) :
    Calls Try.prog 30 #[.slice (some ⟨r, 0, none⟩) vs.length vs.length] w fun e w' => ∃ v, e = .returned v ∧ FnIs n w' v (anyF fs) ∧ Below w.heap.size w w' := by
  have H := Lib.hid (And.intro hn (And.intro hr (And.intro hl (And.intro hs (And.intro h2 h3)))))
  clear hn hr hl hs h2 h3
  go_enter Try.func30, Try.ntmps30
  go_wp2
  go_ret
  have hB : Below w.heap.size w (w.alloc (.cells #[.slice (some ⟨r, 0, none⟩) vs.length vs.length] 58)) := (Below.refl _ w).alloc (Nat.le_refl _) _
  refine ⟨_, rfl, ⟨_, _, rfl, fun c W => rfl, fun W hW c hc => ?_⟩, hB⟩
  obtain ⟨hn, hr, hl, hs, h2, h3⟩ := H.out
  have k0 : Kp n w W := (Kp.of_below hB).trans hW
  have h1 := hW.cells w.heap.size hn _ _ (new_at w _)
  have h2' := k0.cells r hr _ _ h2
  exact oneF n W w.heap.size r c vs fs hl hs (by simp [World.cell?, h1]) (fun i v hv => by simp [World.cell?, h2', hv]) (fun i v f hv hf => (h3 i v f hv hf).kp k0) hc

set_option maxHeartbeats 1000000 in
set_option maxRecDepth 100000 in
theorem punctF (n : Nat) (w : World) (b1 b2 c : Nat) (v1 v2 : Value) (f1 f2 : Nat → Bool) (h1 : w.cell? ⟨b1, 0, none⟩ = some v1) (h2 : w.cell? ⟨b2, 0, none⟩ = some v2) (hf1 : FnIs n w v1 f1) (hf2 : FnIs n w v2 f2) (hc : c < 256) :
    Calls Try.prog 31 #[.int .u8 (c : Int), .pointer (some ⟨b1, 0, none⟩), .pointer (some ⟨b2, 0, none⟩)] w fun e w' => e = .returned (.bool (f1 c && !f2 c)) ∧ ∃ q, w' = w.drewN q := by
  obtain ⟨k1, cs1, rfl, g1, C1⟩ := hf1
  obtain ⟨k2, cs2, rfl, g2, C2⟩ := hf2
  have D1 := Lib.hid (C1 w (Kp.refl n w) c hc)
  have D2 := Lib.hid (fun q => C2 (w.drewN q) ((Kp.refl n w).drewN q) c hc)
  clear C1 C2
  cases e1 : f1 c with
  | true =>
    rw [e1] at D1
    cases e2 : f2 c with
    | true =>
      rw [e2] at D2
      clear e1 e2 hc
      go_enter Try.func31, Try.ntmps31
      go_wp2
      refine D1.out.mono ?_
      rintro e w2 ⟨rfl, q1, rfl⟩
      go_wp2
      refine (D2.out q1).mono ?_
      rintro e w2 ⟨rfl, q2, rfl⟩
      go_wp2
      go_ret
      exact ⟨rfl, q1 + q2, by simp [World.drewN]⟩
    | false =>
      rw [e2] at D2
      clear e1 e2 hc
      go_enter Try.func31, Try.ntmps31
      go_wp2
      refine D1.out.mono ?_
      rintro e w2 ⟨rfl, q1, rfl⟩
      go_wp2
      refine (D2.out q1).mono ?_
      rintro e w2 ⟨rfl, q2, rfl⟩
      go_wp2
      go_ret
      exact ⟨rfl, q1 + q2, by simp [World.drewN]⟩
  | false =>
    rw [e1] at D1
    clear e1 hc D2
    go_enter Try.func31, Try.ntmps31
    go_wp2
    refine D1.out.mono ?_
    rintro e w2 ⟨rfl, q1, rfl⟩
    go_wp2
    go_ret
    exact ⟨by simp, q1, rfl⟩
end Go.Proofs.Ytmemdmjfccepgaa.cls
