/- FilesNone, walked. -/
import Derived.Test.YtpdegpppeepphaaFilGo
import Derived.BigQuiet
namespace Go.Proofs.Ytpdegpppeepphaa.fil
open Go.RowKit Go.Lib Go.Maps Go.WideMaps
set_option linter.unusedVariables false
set_option linter.unusedSimpArgs false
set_option linter.unnecessarySimpa false
set_option linter.unusedSectionVars false

set_option maxHeartbeats 4000000 in
set_option maxRecDepth 100000 in
theorem with_no (what : Nat) (a b t : ByteArray) (n : Int) (kA : Option Addr) (kl kc : Nat) (p : Option Addr) (w : World) (hw : what < 12) (h : NoFs w p) :
    Calls Try.prog 12 #[.pointer p, .agg #[.int .u8 what, .string a, .string b, .string t, .int .i64 n, .slice kA kl kc]] w fun e w' => e = .returned (.int .i64 1) ∧ Below w.heap.size w w' := by
  have hB : Below w.heap.size w (w.alloc (.cells #[.int .u8 what, .string a, .string b, .string t, .int .i64 n, .slice kA kl kc] 33)) := (Below.refl _ _).alloc (Nat.le_refl _) _
  have h' := h.below hB
  match what, hw with
  | 0, _ =>
    have C := Lib.hid ((append_no p a t _ h').mono fun e w' hh => And.intro hh.1 (hB.trans (hh.2.mono hB.size)))
    clear h h' hB
    go_enter Try.func12, Try.ntmps12
    go_wp2_with (go_at_call 23; refine C.out.mono ?_; rintro e w' ⟨rfl, hW⟩)
    go_ret
    exact ⟨rfl, hW⟩
  | 1, _ =>
    have C := Lib.hid ((append_no p a t _ h').mono fun e w' hh => And.intro hh.1 (hB.trans (hh.2.mono hB.size)))
    clear h h' hB
    go_enter Try.func12, Try.ntmps12
    go_wp2_with (go_at_call 23; refine C.out.mono ?_; rintro e w' ⟨rfl, hW⟩)
    go_ret
    exact ⟨rfl, hW⟩
  | 2, _ =>
    have C := Lib.hid ((append_no p a t _ h').mono fun e w' hh => And.intro hh.1 (hB.trans (hh.2.mono hB.size)))
    clear h h' hB
    go_enter Try.func12, Try.ntmps12
    go_wp2_with (go_at_call 23; refine C.out.mono ?_; rintro e w' ⟨rfl, hW⟩)
    go_ret
    exact ⟨rfl, hW⟩
  | 3, _ =>
    have C := Lib.hid ((sync_no p a _ h').mono fun e w' hh => And.intro hh.1 (hB.trans (hh.2.mono hB.size)))
    clear h h' hB
    go_enter Try.func12, Try.ntmps12
    go_wp2_with (go_at_call 30; refine C.out.mono ?_; rintro e w' ⟨rfl, hW⟩)
    go_ret
    exact ⟨rfl, hW⟩
  | 4, _ =>
    have C := Lib.hid ((sync_no p a _ h').mono fun e w' hh => And.intro hh.1 (hB.trans (hh.2.mono hB.size)))
    clear h h' hB
    go_enter Try.func12, Try.ntmps12
    go_wp2_with (go_at_call 30; refine C.out.mono ?_; rintro e w' ⟨rfl, hW⟩)
    go_ret
    exact ⟨rfl, hW⟩
  | 5, _ =>
    have C := Lib.hid ((trunc_no p a n _ h').mono fun e w' hh => And.intro hh.1 (hB.trans (hh.2.mono hB.size)))
    clear h h' hB
    go_enter Try.func12, Try.ntmps12
    go_wp2_with (go_at_call 32; refine C.out.mono ?_; rintro e w' ⟨rfl, hW⟩)
    go_ret
    exact ⟨rfl, hW⟩
  | 6, _ =>
    have C := Lib.hid ((rename_no p a b _ h').mono fun e w' hh => And.intro hh.1 (hB.trans (hh.2.mono hB.size)))
    clear h h' hB
    go_enter Try.func12, Try.ntmps12
    go_wp2_with (go_at_call 31; refine C.out.mono ?_; rintro e w' ⟨rfl, hW⟩)
    go_ret
    exact ⟨rfl, hW⟩
  | 7, _ =>
    have C := Lib.hid ((remove_no p a _ h').mono fun e w' hh => And.intro hh.1 (hB.trans (hh.2.mono hB.size)))
    clear h h' hB
    go_enter Try.func12, Try.ntmps12
    go_wp2_with (go_at_call 33; refine C.out.mono ?_; rintro e w' ⟨rfl, hW⟩)
    go_ret
    exact ⟨rfl, hW⟩
  | 8, _ =>
    have C := Lib.hid ((crash_no p (.slice kA kl kc) _ h').mono fun e w' hh => And.intro hh.1 (hh.2 ▸ hB))
    clear h h' hB
    go_enter Try.func12, Try.ntmps12
    go_wp2_with (go_at_call 27; refine C.out.mono ?_; rintro e w' ⟨rfl, hW⟩)
    go_ret
    exact ⟨rfl, hW⟩
  | 9, _ =>
    have C := Lib.hid ((start_no p _ h').mono fun e w' hh => And.intro hh.1 (hh.2 ▸ hB))
    clear h h' hB
    go_enter Try.func12, Try.ntmps12
    go_wp2_with (go_at_call 28; refine C.out.mono ?_; rintro e w' ⟨rfl, hW⟩)
    go_ret
    exact ⟨rfl, hW⟩
  | 10, _ =>
    have C := Lib.hid ((start_no p _ h').mono fun e w' hh => And.intro hh.1 (hh.2 ▸ hB))
    clear h h' hB
    go_enter Try.func12, Try.ntmps12
    go_wp2_with (go_at_call 28; refine C.out.mono ?_; rintro e w' ⟨rfl, hW⟩)
    go_ret
    exact ⟨rfl, hW⟩
  | 11, _ =>
    have C := Lib.hid ((fail_no p n (.slice kA kl kc) _ h').mono fun e w' hh => And.intro hh.1 (hh.2 ▸ hB))
    clear h h' hB
    go_enter Try.func12, Try.ntmps12
    go_wp2_with (go_at_call 29; refine C.out.mono ?_; rintro e w' ⟨rfl, hW⟩)
    go_ret
    exact ⟨rfl, hW⟩
  | m + 12, h => omega

theorem NoFs.set {w : World} {p : Option Addr} {b : Nat} (h : NoFs w p) (hp : ∀ q, p = some q → q.block ≠ b) (i : Nat) (u : Value) : NoFs (w.setCell ⟨b, i, none⟩ u) p := by
  rcases h with h | ⟨fb, e, h⟩
  · exact .inl h
  · exact .inr ⟨fb, e, h.far (p := ⟨b, i, none⟩) (hp _ e) u⟩
theorem own_one {w : World} {base : Nat} {e : TypeId} {v x : Value} (h : w.ownsRow base e 1 v 1 [x]) : ∃ g cap cur, v = .slice (some ⟨g, 0, none⟩) 1 cap ∧ base ≤ g ∧ 1 ≤ cap ∧ cap ≤ maxLen ∧ At w g e cur ∧ cur[0]? = some x := by
  rcases h.2 with ⟨_, h0⟩ | ⟨g, cap, cur, hv, hb, hh, h1, h2, h3, h4⟩
  · cases h0
  · refine ⟨g, cap, cur, hv, hb, h1, h2, hh, ?_⟩
    have := congrArg (fun l : List Value => l[0]?) h4
    simpa [List.getElem?_take] using this
def s9 : St := ⟨9, [⟨[110], [49, 50, 51, 52], 0⟩], false, 0, none⟩
theorem none_append : sAppend (sNew 9) [110] [49, 50, 51, 52] = (0, s9) := rfl
theorem up_new {w : World} (o : Obj) : Below w.heap.size w (w.alloc o) := (Below.refl _ w).alloc (Nat.le_refl _) o

theorem names_s9 {w : World} {fb : Nat} (h : Has w fb s9) : Calls Try.prog 18 #[.pointer (some ⟨fb, 0, none⟩)] w fun e w' => ∃ g cap cur, e = .returned (.slice (some ⟨g, 0, none⟩) 1 cap) ∧ w.heap.size ≤ g ∧ 1 ≤ cap ∧ cap ≤ maxLen ∧ At w' g 9 cur ∧ cur[0]? = some (.string (B [110])) ∧ Below w.heap.size w w' := by
  obtain ⟨F, mb, D, G, dp, h⟩ := h
  refine (names_is w h).mono ?_
  rintro e w' ⟨v, rfl, hr, hB⟩
  obtain ⟨g, cap, cur, rfl, h1, h2, h3, h4, h5⟩ := own_one (x := .string (B [110])) hr
  exact ⟨g, cap, cur, rfl, h1, h2, h3, h4, h5, hB⟩
theorem uns_s9 {w : World} {fb : Nat} (h : Has w fb s9) : Calls Try.prog 19 #[.pointer (some ⟨fb, 0, none⟩)] w fun e w' => ∃ g cap cur, e = .returned (.slice (some ⟨g, 0, none⟩) 1 cap) ∧ w.heap.size ≤ g ∧ 1 ≤ cap ∧ cap ≤ maxLen ∧ At w' g 3 cur ∧ cur[0]? = some (.int .i64 4) ∧ Below w.heap.size w w' := by
  obtain ⟨F, mb, D, G, dp, h⟩ := h
  refine (uns_is w h).mono ?_
  rintro e w' ⟨v, rfl, hr, hB⟩
  obtain ⟨g, cap, cur, rfl, h1, h2, h3, h4, h5⟩ := own_one (x := .int .i64 4) hr
  exact ⟨g, cap, cur, rfl, h1, h2, h3, h4, h5, hB⟩

set_option maxHeartbeats 4000000 in
set_option maxRecDepth 100000 in
theorem law4 (d : Dt) (hd : d.Ok) (w : World) (hk : LRd w 0 w.heap.size d.kA (iv d.k))
    (hdoes : Hid (∀ W, Calls Try.prog 16 #[] W fun e w' => e = .returned (.bool true) ∧ Below W.heap.size W w')) :
    Calls Try.prog 4 #[d.val] w fun e w' => e = .returned (.bool true) ∧ Below w.heap.size w w' := by
  obtain ⟨what, a, b, t, n, kA, kc, k⟩ := d
  have hwhat := hd.what
  dsimp only at hwhat
  have hD : Dos ((w.alloc (.cells #[.int .u8 what, .string a, .string b, .string t, .int .i64 n, .slice kA k.length kc] 33)).alloc (.cells #[.int .u8 what, .string a, .string b, .string t, .int .i64 n, .slice kA k.length kc] 33)) (w.heap.size + 1 + 1) (some ⟨w.heap.size + 1, 0, none⟩) [⟨what, a, b, t, n, kA, kc, k⟩] := by
    have h1 := LRd.alloc (w.alloc (.cells #[.int .u8 what, .string a, .string b, .string t, .int .i64 n, .slice kA k.length kc] 33)) (flat [⟨what, a, b, t, n, kA, kc, k⟩]) 33
    simp only [World.size_alloc] at h1
    refine ⟨h1.more (Nat.zero_le _) (Nat.le_refl _), fun x hx => ?_, fun x hx => ?_⟩
    · rw [List.mem_singleton.1 hx]
      exact ((hk.below (up_new _)).below (up_new _)).more (Nat.le_refl _) (by omega)
    · rw [List.mem_singleton.1 hx]; exact hd
  have CM := Lib.hid (much_is (some ⟨w.heap.size + 1, 0, none⟩) 1 1 (w.heap.size + 1 + 1) [⟨what, a, b, t, n, kA, kc, k⟩] _ rfl (by omega) (by simp) hD)
  have hA0 := (At.new w 33 #[.int .u8 what, .string a, .string b, .string t, .int .i64 n, .slice kA k.length kc]).alloc (.cells #[.int .u8 what, .string a, .string b, .string t, .int .i64 n, .slice kA k.length kc] 33)
  have hB0 : Below w.heap.size w ((w.alloc (.cells #[.int .u8 what, .string a, .string b, .string t, .int .i64 n, .slice kA k.length kc] 33)).alloc (.cells #[.int .u8 what, .string a, .string b, .string t, .int .i64 n, .slice kA k.length kc] 33)) := ((Below.refl _ w).alloc (Nat.le_refl _) _).alloc (by simp) _
  have hsa : a.size ≤ maxLen := hd.a
  unfold Dt.val
  have HA0 := Lib.hid hA0
  have HB0 := Lib.hid hB0
  clear hk hD hd hA0 hB0
  dsimp only
  generalize k.length = kl at *
  go_enter Try.func4, Try.ntmps4
  go_wp2_with fail
  go_at_call 9
  refine CM.out.mono ?_
  rintro e w1 ⟨he, hB1⟩
  clear CM
  have hA1 := HA0.out.same (hB1.block _ HA0.out.lt)
  have HB1 := HB0.out.trans (hB1.mono HB0.out.size)
  clear HA0 HB0 hB1
  rcases he with rfl | ⟨rfl, _, _⟩
  · go_wp2
    go_ret
    exact ⟨rfl, HB1⟩
  generalize hN : w.heap.size = N at *
  have HN := Lib.hid hN
  clear hN
  have hNs := hA1.lt
  go_wp2
  go_loopg [3, 4] 2 (fun g s3 s4 wr => ∃ (u : Nat) (p : Option Addr) (q : Nat), s4 = .int .i64 u ∧ s3 = .pointer p ∧ u ≤ 2 ∧ 2 - u ≤ g ∧ NoFs wr p ∧ (∀ x, p = some x → x.block ≠ N) ∧ At wr N 33 #[.int .u8 q, .string a, .string b, .string t, .int .i64 n, .slice kA kl kc] ∧ Below N w wr)
  case atStart => exact ⟨0, none, what, rfl, rfl, by omega, by omega, .inl rfl, fun x h => by (cases h), hA1, HB1⟩
  case round =>
    obtain ⟨u, p, q, rfl, rfl, hu, hg, hno, hne, hA, hB⟩ := hrel
    clear hA1 HB1
    have hne := Lib.hid hne
    by_cases hlt : u < 2
    · have hu2 : (u : Int) < 2 := by omega
      go_wp2
      go_loopg [5] 12 (fun g s5 wy => ∃ (j q : Nat), s5 = .int .u8 j ∧ j ≤ 12 ∧ 12 - j ≤ g ∧ NoFs wy p ∧ At wy N 33 #[.int .u8 q, .string a, .string b, .string t, .int .i64 n, .slice kA kl kc] ∧ Below N w wy)
      case atStart => exact ⟨0, q, rfl, by omega, by omega, hno, hA, hB⟩
      case round =>
        obtain ⟨j, q, rfl, hj, hgj, hno, hA, hB⟩ := hrel
        by_cases hlj : j < 12
        · have hA' := hA.set 0 (.int .u8 j)
          have k0 : wr.cell? ⟨N, 0, none⟩ = some (.int .u8 q) := hA.cell 0
          have f0 : wr.frozen? ⟨N, 0, none⟩ = false := hA.frozen 0
          have hno' := hno.set hne.out 0 (.int .u8 j)
          have hB' : Below N w (wr.setCell ⟨N, 0, none⟩ (.int .u8 j)) := hB.setCell (Nat.le_refl _) _
          have C := Lib.hid (with_no j a b t n kA kl kc p _ hlj hno')
          have q0 : (wr.setCell ⟨N, 0, none⟩ (.int .u8 j)).cell? ⟨N, 0, none⟩ = some (.int .u8 j) := hA'.cell 0
          have q1 : (wr.setCell ⟨N, 0, none⟩ (.int .u8 j)).cell? ⟨N, 1, none⟩ = some (.string a) := hA'.cell 1
          have q2 : (wr.setCell ⟨N, 0, none⟩ (.int .u8 j)).cell? ⟨N, 2, none⟩ = some (.string b) := hA'.cell 2
          have q3 : (wr.setCell ⟨N, 0, none⟩ (.int .u8 j)).cell? ⟨N, 3, none⟩ = some (.string t) := hA'.cell 3
          have q4 : (wr.setCell ⟨N, 0, none⟩ (.int .u8 j)).cell? ⟨N, 4, none⟩ = some (.int .i64 n) := hA'.cell 4
          have q5 : (wr.setCell ⟨N, 0, none⟩ (.int .u8 j)).cell? ⟨N, 5, none⟩ = some (.slice kA kl kc) := hA'.cell 5
          have HNB := Lib.hid (And.intro hno' (And.intro hB' hA'))
          clear hno hA hB hno' hB' hA'
          go_wp2_with (go_at_call 12; refine C.out.mono ?_; rintro e w' ⟨rfl, hW⟩)
          go_roundg (12 - (j + 1))
          case measure => omega
          case rel =>
            obtain ⟨z1, z2, z3⟩ := HNB.out
            exact ⟨j + 1, j, by go_num, by omega, by omega, z1.below hW, z3.same (hW.block _ z3.lt), z2.trans (hW.mono (Nat.le_of_lt z3.lt))⟩
        · obtain rfl : j = 12 := by omega
          have q1 : wr.cell? ⟨N, 1, none⟩ = some (.string a) := hA.cell 1
          have hNr := hA.lt
          have R1 := Lib.hid (read_no p a wr hno)
          have R2 := Lib.hid (names_no p wr hno)
          have R3 := Lib.hid (uns_no p wr hno)
          have R4 := Lib.hid (size_no p wr hno)
          have R5 := Lib.hid (up_no p wr hno)
          have R6 := Lib.hid (starts_no p wr hno)
          have HAB := Lib.hid (And.intro hA hB)
          clear hno hA hB
          go_wp2_with fail
          go_at_call 17
          refine R1.out.mono ?_
          rintro e w' ⟨rfl, rfl⟩
          clear R1
          go_wp2_with fail
          go_at_call 18
          refine R2.out.mono ?_
          rintro e w' ⟨rfl, rfl⟩
          clear R2
          go_wp2_with fail
          go_at_call 19
          refine R3.out.mono ?_
          rintro e w' ⟨rfl, rfl⟩
          clear R3
          go_wp2_with fail
          go_at_call 20
          refine R4.out.mono ?_
          rintro e w' ⟨rfl, rfl⟩
          clear R4
          go_wp2_with fail
          go_at_call 21
          refine R5.out.mono ?_
          rintro e w' ⟨rfl, rfl⟩
          clear R5
          go_wp2_with fail
          go_at_call 22
          refine R6.out.mono ?_
          rintro e w' ⟨rfl, rfl⟩
          clear R6
          go_wp2
          go_roundg (2 - (u + 1))
          case measure => omega
          case rel => exact ⟨u + 1, some ⟨wr.heap.size, 0, none⟩, q, by go_num, rfl, by omega, by omega, .inr ⟨_, rfl, At.new _ _ _⟩, fun x h => by (injection h with h; subst h; show wr.heap.size ≠ N; omega), HAB.out.1.alloc _, HAB.out.2.alloc (by omega) _⟩
    · obtain rfl : u = 2 := by omega
      have hNle : ∀ W, Below N w W → N ≤ W.heap.size := fun W h => by have h1 := h.size; have h2 := HN.out; omega
      have hNr := hA.lt
      have HB := Lib.hid hB
      clear hA hno hne hB
      have C0 := Lib.hid (new_run 9 wr (by omega) (by omega))
      go_wp2_with fail
      go_at_call 10
      refine C0.out.mono ?_
      rintro e w2 ⟨rfl, hR⟩
      clear C0
      have CA := append_run ⟨#[110]⟩ ⟨#[49, 50, 51, 52]⟩ (by decide) (by decide) hR
      rw [show (⟨#[110]⟩ : ByteArray).data.toList = [110] from rfl, show (⟨#[49, 50, 51, 52]⟩ : ByteArray).data.toList = [49, 50, 51, 52] from rfl, none_append] at CA
      have CA := Lib.hid CA
      clear hR
      go_wp2_with fail
      go_at_call 23
      refine CA.out.mono ?_
      rintro e w3 ⟨rfl, hR⟩
      clear CA
      obtain ⟨F, hF1, hF2⟩ := hR.is
      have hlt := hF2.lt
      have hs3 := hR.size
      have HB3 : Below N w w3 := HB.out.trans (hR.below.mono (by omega))
      generalize wr.heap.size + 1 = fb at *
      have C1 := Lib.hid (names_s9 ⟨F, hF2⟩)
      clear hR
      go_wp2_with fail
      go_at_call 18
      refine C1.out.mono ?_
      rintro e w4 ⟨g4, c4, cu4, rfl, a1, a2, a3, a4, a5, a6⟩
      clear C1
      have hs4 := a6.size
      have hF4 := hF2.below a6
      have C2 := Lib.hid (uns_s9 ⟨F, hF4⟩)
      go_wp2_with fail
      go_at_call 19
      refine C2.out.mono ?_
      rintro e w5 ⟨g5, c5, cu5, rfl, b1, b2, b3, b4, b5, b6⟩
      clear C2
      have hs5 := b6.size
      have hF5 := hF4.below b6
      have a4' := a4.same (b6.block _ a4.lt)
      have hg4 := a4.lt
      have hg5 := b4.lt
      have hgg : g4 ≠ g5 := by omega
      have m1 : w5.cell? ⟨g4, 0, none⟩ = some (.string (B [110])) := (a4'.cell 0).trans a5
      have m2 : w5.frozen? ⟨g4, 0, none⟩ = false := a4'.frozen 0
      have b4' := b4.far (p := ⟨g4, 0, none⟩) (Ne.symm hgg) (.string ⟨#[122]⟩)
      have m3 : (w5.setCell ⟨g4, 0, none⟩ (.string ⟨#[122]⟩)).cell? ⟨g5, 0, none⟩ = some (.int .i64 4) := (b4'.cell 0).trans b5
      have m4 : (w5.setCell ⟨g4, 0, none⟩ (.string ⟨#[122]⟩)).frozen? ⟨g5, 0, none⟩ = false := b4'.frozen 0
      have hT : Turned (fun x => x = g4 ∨ x = g5) w5 ((w5.setCell ⟨g4, 0, none⟩ (.string ⟨#[122]⟩)).setCell ⟨g5, 0, none⟩ (.int .i64 0)) := ((Turned.refl _ w5).setCell (p := ⟨g4, 0, none⟩) (.inl (.inl rfl)) _).setCell (p := ⟨g5, 0, none⟩) (.inl (.inr rfl)) _
      have hF9 := hF5.apart hT (fun x hx => by
        have := hlt x hx
        rintro (rfl | rfl) <;> omega)
      have HB9 : Below N w ((w5.setCell ⟨g4, 0, none⟩ (.string ⟨#[122]⟩)).setCell ⟨g5, 0, none⟩ (.int .i64 0)) := (((HB3.trans (a6.mono (by omega))).trans (b6.mono (by omega))).setCell (p := ⟨g4, 0, none⟩) (show N ≤ g4 by omega) _).setCell (p := ⟨g5, 0, none⟩) (show N ≤ g5 by omega) _
      have C3 := Lib.hid (names_has ⟨F, hF9⟩)
      have HF9 := Lib.hid hF9
      clear hF2 hF4 hF5 hF9 hT a4 a4' b4 b4' a6 b6 HB3
      generalize hw9 : (w5.setCell ⟨g4, 0, none⟩ (.string ⟨#[122]⟩)).setCell ⟨g5, 0, none⟩ (.int .i64 0) = w9 at C3 HF9 HB9
      have hs9 := HB9.size
      go_wp2_with fail
      clear hw9 m1 m2 m3 m4
      go_at_call 18
      refine C3.out.mono ?_
      rintro e w10 ⟨A10, c10, rfl, d1, d2, d3, d4⟩
      clear C3
      have hF10 := HF9.out.below d4
      have hs10 := d4.size
      have C4 := Lib.hid (same_yes A10 (some ⟨w10.heap.size, 0, none⟩) c10 1 1 w9.heap.size w10.heap.size w10.heap.size (w10.heap.size + 1) [[110]] (w10.alloc (.cells (strV [[110]]).toArray 9)) rfl (by omega) (by simp) (by simp) (d3.below (up_new _)) (LRd.alloc w10 (strV [[110]]) 9))
      have hF11 := hF10.below (up_new (.cells (strV [[110]]).toArray 9))
      have HB11 : Below N w (w10.alloc (.cells (strV [[110]]).toArray 9)) := (HB9.trans (d4.mono (hNle _ HB9))).alloc (Nat.le_trans (hNle _ HB9) d4.size) _
      go_wp2_with fail
      go_at_call 24
      refine C4.out.mono ?_
      rintro e w12 ⟨rfl, e4⟩
      clear C4
      have hF12 := hF11.below e4
      have hs12 := e4.size
      have HB12 := HB11.trans (e4.mono (hNle _ HB11))
      have C5 := Lib.hid (uns_has ⟨F, hF12⟩)
      clear hF10 hF11 d3 d4 e4 HB11 HB9
      go_wp2_with fail
      go_at_call 19
      refine C5.out.mono ?_
      rintro e w13 ⟨A13, c13, rfl, f1, f2, f3, f4⟩
      clear C5
      have HB13 : Below N w w13 := HB12.trans (f4.mono (hNle _ HB12))
      have C6 := Lib.hid ((numbers_l A13 (some ⟨w13.heap.size, 0, none⟩) c13 1 1 1 w12.heap.size w13.heap.size w13.heap.size (w13.heap.size + 1) [4] [4] (w13.alloc (.cells (iv [4]).toArray 3)) rfl rfl (by omega) (by omega) (f3.below (up_new _)) (LRd.alloc w13 (iv [4]) 3)).mono fun e w' hh => And.intro (show e = .returned (.bool true) from hh.1) hh.2)
      have HB14 : Below N w (w13.alloc (.cells (iv [4]).toArray 3)) := HB13.alloc (hNle _ HB13) _
      go_wp2_with fail
      go_at_call 14
      refine C6.out.mono ?_
      rintro e w15 ⟨rfl, g15⟩
      clear C6
      have HB15 := HB14.trans (g15.mono (hNle _ HB14))
      go_wp2_with fail
      go_at_call 16
      refine (hdoes.out _).mono ?_
      rintro e w16 ⟨rfl, k4⟩
      go_wp2
      go_ret
      exact ⟨rfl, by rw [HN.out]; exact HB15.trans (k4.mono (hNle _ HB15))⟩
end Go.Proofs.Ytpdegpppeepphaa.fil
