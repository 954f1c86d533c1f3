/- Marks: All, Check. -/
import Derived.Test.YtojcbjificodaaaMrkShift
namespace Go.Proofs.Ytojcbjificodaaa.mrk
open Go.RowKit Go.Lib pce sps
set_option linter.unusedVariables false
set_option linter.unusedSimpArgs false
set_option linter.unnecessarySimpa false
set_option linter.unusedSectionVars false

/-- Marks behind splices, one behind the other. -/
def shfs (f : Nat → Int) (ts : List Ct) : Nat → Int := ts.foldl (fun g t => shf g t.a t.d t.ins.length) f
theorem shfs_next {f : Nat → Int} {ts : List Ct} {j : Nat} {t : Ct} (h : ts[j]? = some t) : shfs f (ts.take (j + 1)) = shf (shfs f (ts.take j)) t.a t.d t.ins.length := by
  obtain ⟨hl, he⟩ := List.getElem?_eq_some_iff.1 h
  unfold shfs
  rw [List.take_succ_eq_append_getElem hl, List.foldl_append, he]
  rfl
theorem shfs_ints {f : Nat → Int} (hf : Ints f) (ts : List Ct) : Ints (shfs f ts) := by
  unfold shfs
  induction ts generalizing f with
  | nil => exact hf
  | cons t ts ih => exact ih hf.shf
/-- Splices of which none lays too many lines. -/
def Short (ts : List Ct) : Prop := ∀ t ∈ ts, t.ins.length ≤ 100000
set_option maxHeartbeats 2000000 in
set_option maxRecDepth 100000 in
theorem all_is (F : Nat → Prop) (f : Nat → Int) (A : Option Addr) (n c : Nat) (ts : List Ct) (w : World) (hf : Ints f) (hn : n = ts.length) (hb : n ≤ 100000) (hC : Cuts w F A ts) (hS : Short ts) :
    Calls Try.prog 11 #[.agg (arr f), .slice A n c] w fun e w' => e = .returned (.agg (arr (shfs f ts))) ∧ Below w.heap.size w w' := by
  have HF := Lib.hid hf
  have HN := Lib.hid hn
  have HC := Lib.hid hC
  have HS := Lib.hid hS
  clear hf hn hC hS
  go_enter Try.func11, Try.ntmps11
  go_wp2_with (first
    | (refine wpList_boxA rfl _ rfl f rfl ?_; intro w1 hz1 hA1 hB1)
    | (refine wpList_allocA rfl rfl ?_; intro w3 hz3 hA3 hB3; have hB := hB1.trans (hB3.mono (by omega)); have hM1 := hA1.all hB3; clear hA1 hB1)
    | fail "NONE")
  rw [hz1] at hA3
  have HA3 := Lib.hid hA3
  have HB := Lib.hid hB
  have HM1 := Lib.hid hM1
  clear hA3 hB hM1 hB3 hz3 hz1
  go_loopg [9] n (fun g s9 wr => ∃ j : Nat, j ≤ n ∧ n - j ≤ g ∧ s9 = .int .i64 j ∧ Hid (Arr wr w.heap.size (shfs f (ts.take j))) ∧ Hid (Arr wr (w.heap.size + 1) noM) ∧ Hid (Below w.heap.size w wr))
  case atStart => exact ⟨0, Nat.zero_le _, by omega, rfl, HM1, HA3, HB⟩
  case round =>
    obtain ⟨j, hj, hg, rfl, PM, PR, PB⟩ := hrel
    clear HA3 HB HM1
    have hzr := PR.out.lt
    by_cases hlt : j < n
    · obtain ⟨t, ht⟩ : ∃ t, ts[j]? = some t := ⟨_, List.getElem?_eq_getElem (by rw [← HN.out]; exact hlt)⟩
      have HT := Lib.hid ht
      have hC1 := HC.out.below PB.out
      obtain ⟨b, off, rfl, g0, g1, g2⟩ := hC1.at ht
      have hok := HC.out.each t (List.mem_of_getElem? ht)
      have hk := HS.out t (List.mem_of_getElem? ht)
      obtain ⟨a1, a2, a3, a4, _, _, _⟩ := hok
      have C := Lib.hid (fun (W : World) => shift_is (shfs f (ts.take j)) t.a t.d t.A t.ins.length t.c W (shfs_ints HF.out _) a1 a2 a3 a4 hk)
      have PM1 := Lib.hid (PM.out.alloc (.cells #[.int .i64 t.a, .int .i64 t.d, .slice t.A t.ins.length t.c] 30))
      have PS1 := Lib.hid (At.new wr 30 #[.int .i64 t.a, .int .i64 t.d, .slice t.A t.ins.length t.c])
      clear ht hC1 a1 a2 a3 a4 hk
      go_wp2_with (first
        | (refine wpList_storeL rfl (.tmp 6) (.tmp 12) rfl wr _ _ _ rfl t.a t.d t.A t.ins.length t.c rfl rfl ?_; obtain ⟨c0, c1, c2⟩ := three_at PS1.out)
        | (refine wpList_loadA rfl _ rfl _ rfl _ PM1.out ?_)
        | fail "NONE")
      go_at_call 8
      refine (C.out _).mono ?_
      rintro e w' ⟨rfl, hB'⟩
      go_wp2_with (first
        | (refine wpList_storeA rfl (.tmp 2) (.tmp 15) rfl _ _ rfl rfl _ (PM1.out.all hB') ?_; intro w5 hA5 hO5)
        | fail "NONE")
      go_roundg (n - (j + 1))
      case measure => omega
      case rel => exact ⟨j + 1, by omega, by omega, by go_num, by rw [shfs_next HT.out]; exact hA5, ((PR.out.alloc _).all hB').only hO5 (by omega),
        ((PB.out.alloc PB.out.size _).trans (hB'.mono (by simp; omega))).trans (hO5.below (Nat.le_refl _))⟩
    · obtain rfl : j = n := by omega
      go_wp2_with (first
        | (refine wpList_loadA rfl _ rfl _ rfl _ PM.out ?_)
        | (refine wpList_storeA rfl (.tmp 4) (.tmp 17) rfl _ _ rfl rfl _ PR.out ?_; intro w5 hA5 hO5)
        | fail "NONE")
      have e : shfs f (ts.take j) = shfs f ts := by rw [HN.out, List.take_length]
      refine bodyPost_ret (results_A1 Try.results11 rfl hA5) rfl ⟨by rw [e], PB.out.trans (hO5.below (by omega))⟩
set_option maxHeartbeats 2000000 in
set_option maxRecDepth 100000 in
theorem check_is (f : Nat → Int) (n : Int) (w : World) (b : Bool) (hb : may f n = b) (hf : Ints f) (hn1 : -9223372036854775808 ≤ n) (hn2 : n ≤ 9223372036854775807) :
    Calls Try.prog 9 #[.agg (arr f), .int .i64 n] w fun e w' => e = .returned (.bool b) ∧ Below w.heap.size w w' := by
  have HF := Lib.hid hf
  have HB0 := Lib.hid hb
  clear hf hb
  go_enter Try.func9, Try.ntmps9
  go_wp2_with (first
    | (refine wpList_boxA rfl _ rfl f rfl ?_; intro w1 hz1 hA1 hB1)
    | (refine wpList_loadA rfl _ rfl _ rfl _ hA1 ?_)
    | fail "NONE")
  have HB := Lib.hid hB1
  clear hA1 hB1 hz1
  go_loopg [8] 26 (fun g s8 wr => ∃ j : Nat, j ≤ 26 ∧ 26 - j ≤ g ∧ s8 = .int .i64 j ∧ wr = w1 ∧ Hid (∀ i, i < j → 0 ≤ f i ∧ f i ≤ n))
  case atStart => exact ⟨0, Nat.zero_le _, by omega, rfl, rfl, fun i hi => by omega⟩
  case round =>
    obtain ⟨j, hj, hg, rfl, hwr, PM⟩ := hrel
    subst hwr
    by_cases hlt : j < 26
    · obtain ⟨x, hx⟩ : ∃ x, f j = x := ⟨_, rfl⟩
      have HX := Lib.hid hx
      obtain ⟨x1, x2⟩ := HF.out j hlt
      rw [hx] at x1 x2
      by_cases h0 : x < 0
      · obtain rfl : b = false := by
          rw [← HB0.out]
          unfold may
          rw [List.all_eq_false]
          exact ⟨j, List.mem_range.2 hlt, by rw [hx]; simp; omega⟩
        go_wp2_with (refine wpList_indexA rfl (.tmp 7) (.tmp 8) rfl f rfl j rfl hlt ?_; rw [HX.out])
        go_ret
        exact ⟨rfl, HB.out⟩
      · by_cases h1 : n < x
        · obtain rfl : b = false := by
            rw [← HB0.out]
            unfold may
            rw [List.all_eq_false]
            exact ⟨j, List.mem_range.2 hlt, by rw [hx]; simp; omega⟩
          go_wp2_with (refine wpList_indexA rfl (.tmp 7) (.tmp 8) rfl f rfl j rfl hlt ?_; rw [HX.out])
          go_ret
          exact ⟨rfl, HB.out⟩
        · go_wp2_with (refine wpList_indexA rfl (.tmp 7) (.tmp 8) rfl f rfl j rfl hlt ?_; rw [HX.out])
          go_roundg (26 - (j + 1))
          case measure => omega
          case rel => exact ⟨j + 1, by omega, by omega, by go_num, rfl, fun i hi => by
            by_cases hij : i = j
            · subst hij; rw [HX.out]; omega
            · exact PM.out i (by omega)⟩
    · obtain rfl : j = 26 := by omega
      obtain rfl : b = true := by
        rw [← HB0.out]
        unfold may
        rw [List.all_eq_true]
        exact fun i hi => by have := PM.out i (List.mem_range.1 hi); simpa using this
      go_wp2
      go_ret
      exact ⟨rfl, HB.out⟩
end Go.Proofs.Ytojcbjificodaaa.mrk
