/- Logs: the payloads of lines, and of the chapter's change. -/
import Derived.Test.YtmknbakfjhjfmaaGreatDoorFrmWhole
import Derived.Test.YtmknbakfjhjfmaaGreatDoorSplDec2
import Derived.Test.YtmknbakfjhjfmaaGreatDoorSplDoes
import Derived.Test.YtmknbakfjhjfmaaGreatDoorLgsPure
import Derived.Test.YtmknbakfjhjfmaaGreatDoorTwin
import Derived.OwnWalk
import Derived.Test.YtmknbakfjhjfmaaGreatDoorSplEnc
/-! Logs: the list of which a payload is; the change of which one is. -/
namespace Go.Proofs.YtmknbakfjhjfmaaGreatDoor.lgs
open Go.RowKit Go.Lib Go.Proofs.YtmknbakfjhjfmaaGreatDoor.pce
set_option linter.unusedVariables false
set_option linter.unusedSimpArgs false
set_option linter.unnecessarySimpa false
set_option linter.unusedSectionVars false

theorem at_cells {w : World} {b : Nat} {t : TypeId} {cs : List Value} (h : At w b t cs.toArray) : ∀ j u, cs[j]? = some u → w.cell? ((⟨b, 0, none⟩ : Addr).add j) = some u := fun j u hj => by
  rw [Go.WideShapes.add_plain, Nat.zero_add, h.cell j]
  simpa using hj
theorem own_form3 {w : World} {base e size n : Nat} {v : Value} {xs : List Value} (h : w.ownsRow base e size v n xs) : ∃ A c, v = .slice A n c := by
  rcases h.2 with ⟨hv, h0⟩ | ⟨b, cap, _, hv, _⟩
  · exact ⟨none, 0, by rw [hv, h0]⟩
  · exact ⟨_, _, hv⟩
theorem own_base_le {w : World} {base b0 e size n : Nat} {v : Value} {xs : List Value} (h : w.ownsRow base e size v n xs) (hb : b0 ≤ base) : w.ownsRow b0 e size v n xs := by
  refine ⟨h.1, ?_⟩
  rcases h.2 with h0 | ⟨g, cap, cur, rfl, hg, r⟩
  · exact .inl h0
  · exact .inr ⟨g, cap, cur, rfl, Nat.le_trans hb hg, r⟩
theorem getList_yes (c : UInt8) (q : ByteArray) (ts : List (List UInt8)) (w : World) (hq : q.data.toList = [c]) (hl : (num.putL ts).length ≤ 99999) (hm : ts.length ≤ num.MX) (h2 : ∀ t ∈ ts, t.length ≤ num.MX) (hV : num.Vars w.heap.size w) :
    Calls Tryz.prog 82 #[.string (B (c :: num.putL ts)), .string q] w fun e w' => ∃ A k, e = .returned (.tuple #[.slice A ts.length k, .bool true]) ∧ SRd w' w'.heap.size A (ts.map B) ∧ w'.ownsRow w.heap.size 9 1 (.slice A ts.length k) ts.length (num.strs' ts) ∧ Below w.heap.size w w' := by
  have hs1 : q.size = 1 := by rw [← num.size_list q, hq]; rfl
  have K1 := frm.cutYes (B (c :: num.putL ts)) q w (by rw [list_B, hq]; simp [Lib.hasPrefix])
  rw [list_B, hs1, List.drop_one, List.tail_cons] at K1
  have K2 := num.getList24 (B (num.putL ts)) 0 w (by rw [B_size]; omega) hV
  unfold num.ListSays at K2
  have ha : num.atL (B (num.putL ts)).data.toList 0 = some ts := by
    rw [list_B]
    unfold num.atL
    rw [if_pos ⟨by omega, by omega⟩]
    have := num.getL_put hm h2 []
    simpa using this
  simp only [ha] at K2
  obtain ⟨r, hr⟩ : ∃ r, B (num.putL ts) = r := ⟨_, rfl⟩
  have hsz : ((0 : Int) + ((num.putL ts).length : Int)) = (r.size : Int) := by rw [← hr, B_size]; omega
  rw [hr] at K1 K2
  rw [hsz] at K2
  have K1 := Lib.hid K1
  have K2 := Lib.hid K2
  clear ha hsz hr hV h2 hm hl hs1 hq
  generalize B (c :: num.putL ts) = p at *
  go_enter Tryz.func82, Tryz.ntmps82
  go_wp2_with (first
    | (go_at_call 100; (with_reducible refine K1.out.mono ?_); rintro e w' ⟨rfl, rfl⟩)
    | (go_at_call 101; (with_reducible refine K2.out.mono ?_); rintro e w2 ⟨hB2, A, k, rfl, ho, hS⟩))
  go_ret2
  exact ⟨A, k, rfl, hS, ho, hB2⟩

theorem infoS : (Tryz.prog.info? 46).map (fun i => (i.zero, i.size, i.bytes)) = some (some (.agg #[.int .i64 0, .int .i64 0, .slice none 0 0]), 3, 40) := by kernel_rfl
theorem dec_one : sps.dec (sps.enc 1 0 [[120]]) = some (1, 0, [[120]]) := sps.dec_enc (ins := [⟨#[120]⟩]) (by decide) (by decide) (by decide)
theorem decode_one (W : World) (hV : num.Vars W.heap.size W) : Calls Tryz.prog 84 #[.string (B (sps.enc 1 0 [[120]]))] W fun e w' => ∃ A c, e = .returned (.tuple #[.agg #[.int .i64 1, .int .i64 0, .slice A 1 c], .int .i64 0]) ∧ w'.ownsRow W.heap.size 9 1 (.slice A 1 c) 1 [.string ⟨#[120]⟩] ∧ Below W.heap.size W w' := by
  refine (sps.decode_is (B (sps.enc 1 0 [[120]])) W (by decide +kernel) hV).mono ?_
  rintro e w' ⟨hB, hd⟩
  rw [list_B, dec_one] at hd
  obtain ⟨A, c, he, ho⟩ := hd
  exact ⟨A, c, he, ho, hB⟩
theorem getChange_one (w : World) (hV : num.Vars w.heap.size w) :
    Calls Tryz.prog 59 #[.string (B C1)] w fun e w' => ∃ A k A2 k2, e = .returned (.tuple #[.slice A 1 k, .bool true]) ∧ w'.ownsRow w.heap.size 46 3 (.slice A 1 k) 1 [.int .i64 1, .int .i64 0, .slice A2 1 k2] ∧ w'.ownsRow w.heap.size 9 1 (.slice A2 1 k2) 1 [.string ⟨#[120]⟩] ∧ Below w.heap.size w w' := by
  obtain ⟨i0, hi, hz0, hz1, hz2⟩ := info_parts infoS
  have K1 : Calls Tryz.prog 82 #[.string (B C1), .string ⟨#[99]⟩] w fun e w' => ∃ A k, e = .returned (.tuple #[.slice A 1 k, .bool true]) ∧ SRd w' w'.heap.size A [B (sps.enc 1 0 [[120]])] ∧ w'.ownsRow w.heap.size 9 1 (.slice A 1 k) 1 (num.strs' [sps.enc 1 0 [[120]]]) ∧ Below w.heap.size w w' :=
    getList_yes 99 ⟨#[99]⟩ [sps.enc 1 0 [[120]]] w rfl (by decide +kernel) (by decide +kernel) (by decide +kernel) hV
  have K1 := Lib.hid K1
  have HV := Lib.hid hV
  clear hV
  generalize B C1 = p at *
  have K2 := Lib.hid (fun W h => decode_one W h)
  generalize B (sps.enc 1 0 [[120]]) = z at *
  go_enter Tryz.func59, Tryz.ntmps59
  go_wp2_with (first
    | (go_at_call 82; (with_reducible refine K1.out.mono ?_); rintro e w1 ⟨A1, k1, rfl, hS1, ho1, hB1⟩))
  obtain ⟨b1, off1, rfl, hb1, hc1⟩ := hS1 (by simp)
  have v0 : w1.cell? ⟨b1, off1, none⟩ = some (.string z) := hc1 0 (by simp)
  have hV1 := (HV.out.next hB1)
  have K3 := Lib.hid (K2.out w1 hV1)
  clear hc1 ho1
  refine wp_loop_rounds 2 ?_
  rw [rounds_succ]
  go_wp2_with (first
    | (go_at_call 84; (with_reducible refine K3.out.mono ?_); rintro e w2 ⟨A2, k2, rfl, ho2, hB2⟩; obtain ⟨w3, hw3⟩ : ∃ w3, w2.alloc (.cells #[.int .i64 1, .int .i64 0, .slice A2 1 k2] 46) = w3 := ⟨_, rfl⟩; have hA3 := At.new w2 46 #[.int .i64 1, .int .i64 0, .slice A2 1 k2]; have hB3 : Below w2.heap.size w2 w3 := hw3 ▸ (Below.refl _ _).alloc (Nat.le_refl _) _; rw [hw3] at hA3; have x0 := hA3.cell 0; have x1 := hA3.cell 1; have x2 := hA3.cell 2; have HA3 := Lib.hid hA3; clear hA3)
    | (refine sps.wpList_storeL rfl (.tmp 9) (.tmp 32) rfl w2 _ _ _ rfl 1 0 A2 1 k2 (by first | rfl | simp [Act.eval, Act.put]) (by first | rfl | simp [Act.eval, Act.put]) ?_; rw [hw3])
    | (at_builtin; refine wpList_append_own _ rfl (.tmp 36) (.tmp 38) 23 rfl w.heap.size 46 i0 _ 3 40 Tryz.underlying23 hi hz0 hz1 hz2 rfl (by decide) _ 0 [] rfl (World.ownsRow_nil _ _ _ _) ⟨w3.heap.size, 0, none⟩ 1 1 [.int .i64 1, .int .i64 0, .slice A2 1 k2] rfl rfl (at_cells (At.new w3 _ _)) (by simp [Value.oneCell']) (by unfold maxLen; omega) (by omega) (by have := hB1.size; have := hB2.size; have := hB3.size; simp; omega) ?_; intro v5 w5 hown5 hgrow5 _))
  rw [rounds_succ]
  go_wp2
  have hg : Below w2.heap.size w2 w5 := (hB3.alloc hB3.size _).grown hgrow5 (by have := hB3.size; simp; omega) (fun j hj => by cases hj)
  have hB12 : Below w.heap.size w w2 := hB1.trans (hB2.mono hB1.size)
  have hB5 : Below w.heap.size w w5 := hB12.trans (hg.mono hB12.size)
  have hO2 := own_base_le (frm.own_below ho2 hg) hB1.size
  rw [Nat.zero_add, List.nil_append] at hown5
  obtain ⟨A5, k5, rfl⟩ := own_form3 hown5
  go_ret2
  exact ⟨A5, k5, A2, k2, rfl, hown5, hO2, hB5⟩
end Go.Proofs.YtmknbakfjhjfmaaGreatDoor.lgs

/-! Logs: what a journal's bytes lead to: the chapter's journal, with its change and without. -/
namespace Go.Proofs.YtmknbakfjhjfmaaGreatDoor.lgs
open Go.RowKit Go.Lib Go.Proofs.YtmknbakfjhjfmaaGreatDoor.pce
set_option linter.unusedVariables false
set_option linter.unusedSimpArgs false
set_option linter.unnecessarySimpa false
set_option linter.unusedSectionVars false

abbrev La : ByteArray := ⟨#[97]⟩
abbrev Lb : ByteArray := ⟨#[98]⟩
abbrev Lx : ByteArray := ⟨#[120]⟩
/-- What a call told: a list of texts, in memory that reads. -/
def Lines (w : World) (zs : List ByteArray) (v : Value) (w' : World) : Prop := ∃ A k, v = .slice A zs.length k ∧ pce.Lst w' (w.heap.size ≤ ·) A zs.length k zs ∧ Below w.heap.size w w'

theorem tail_two (b o c : Nat) (hc : 2 ≤ c) (W : World) : (Instr.slice 22 (.slice (some ⟨b, o, none⟩) 2 c) (some (.int .i64 1)) none none).run Tryz.prog W = .ok (.slice (some ⟨b, o + 1, none⟩) 1 (c - 1)) W := by
  have T := pce.tail_slice (some ⟨b, o, none⟩) 2 c 1 1 rfl W
  have hta : pce.tailA (some ⟨b, o, none⟩) c 1 = some ⟨b, o + 1, none⟩ := (if_neg (show ¬ c = 1 by omega)).trans rfl
  rw [hta] at T
  exact T
theorem tail_one (A : Option Addr) (c : Nat) (W : World) : (Instr.slice 22 (.slice A 1 c) (some (.int .i64 1)) none none).run Tryz.prog W = .ok (.slice (pce.tailA A c 1) 0 (c - 1)) W := pce.tail_slice A 1 c 1 0 rfl W
theorem VRd.of_own3 {w : World} {base e size n c : Nat} {A : Option Addr} {vs : List Value} (h : w.ownsRow base e size (.slice A n c) n vs) (h0 : 0 < n) : VRd w (fun _ => True) A vs := fun hn => by
  rcases h.2 with ⟨hv, h1⟩ | ⟨g, cap, cur, hv, hg, hh, _⟩
  · omega
  · injection hv with hA
    subst hA
    refine ⟨g, 0, rfl, trivial, At.lt hh, fun j u hj => ?_⟩
    have := h.cells (g := g) rfl j u hj
    rwa [Go.WideShapes.add_plain] at this
theorem own_cells {w : World} {base e size n c : Nat} {A : Option Addr} {vs : List Value} (h : w.ownsRow base e size (.slice A n c) n vs) (h0 : 0 < n) (hv : 0 < vs.length) : ∃ b o, A = some ⟨b, o, none⟩ ∧ b < w.heap.size ∧ ∀ j u, vs[j]? = some u → w.cell? ((⟨b, o, none⟩ : Addr).add j) = some u := by
  obtain ⟨b, o, hA, _, hb, hc⟩ := VRd.of_own3 h h0 hv
  exact ⟨b, o, hA, hb, fun j u hj => by rw [Go.WideShapes.add_plain]; exact hc j u hj⟩
theorem one_cuts {w : World} {base base2 : Nat} {A A2 : Option Addr} {k k2 : Nat} (h1 : w.ownsRow base 46 3 (.slice A 1 k) 1 [.int .i64 1, .int .i64 0, .slice A2 1 k2]) (h2 : w.ownsRow base2 9 1 (.slice A2 1 k2) 1 [.string Lx]) :
    Cuts w (fun _ => True) A [⟨1, 0, A2, k2, [Lx]⟩] := by
  refine ⟨VRd.of_own3 h1 (by omega), fun t ht => ?_⟩
  simp only [List.mem_singleton] at ht
  subst ht
  exact ⟨(show (-9223372036854775808 : Int) ≤ 1 by decide), (show (1 : Int) ≤ 9223372036854775807 by decide), (show (-9223372036854775808 : Int) ≤ 0 by decide), (show (0 : Int) ≤ 9223372036854775807 by decide), (sps.lst_own (zs := [Lx]) rfl h2).any, fun z hz => by simp only [List.mem_singleton] at hz; subst hz; decide, (show 1 ≤ maxLen by decide)⟩
theorem no_cuts (w : World) (A : Option Addr) : Cuts w (fun _ => True) A [] := ⟨VRd.nil, fun t ht => by cases ht⟩
theorem all_two (A : Option Addr) (c : Nat) (Bo : Option Addr) (c' : Nat) (A2 : Option Addr) (k2 : Nat) (w : World) (hL : Lst w (fun _ => True) A 2 c [La, Lb]) (hC : Cuts w (fun _ => True) Bo [⟨1, 0, A2, k2, [Lx]⟩]) :
    Calls Tryz.prog 85 #[.slice A 2 c, .slice Bo 1 c'] w fun e w' => ∃ v, e = .returned (.tuple #[v, .int .i64 0]) ∧ Lines w [La, Lx, Lb] v w' := by
  refine (sps.all_is _ A 2 c [La, Lb] Bo 1 c' [⟨1, 0, A2, k2, [Lx]⟩] w 0 (by kernel_rfl) hL (by omega) hC rfl (by omega) (by intro t ht; simp only [List.mem_singleton] at ht; subst ht; exact (show 1 ≤ 10000 by decide))).mono ?_
  rintro e w' ⟨hB, ⟨h0, _⟩ | ⟨_, B', n', c2, rfl, hn, ho⟩⟩
  · exact absurd rfl h0
  · have hl : sps.runL [La, Lb] [⟨1, 0, A2, k2, [Lx]⟩] = [La, Lx, Lb] := rfl
    rw [hl] at hn ho
    subst hn
    have hL := sps.lst_own (zs := [La, Lx, Lb]) rfl ho
    exact ⟨_, rfl, B', c2, rfl, hL, hB⟩
theorem first_two (W : World) (hV : num.Vars W.heap.size W) : Calls Tryz.prog 82 #[.string (B P1), .string ⟨#[98]⟩] W fun e w' => ∃ A k, e = .returned (.tuple #[.slice A 2 k, .bool true]) ∧ Lst w' (W.heap.size ≤ ·) A 2 k [La, Lb] ∧ Below W.heap.size W w' :=
  (getList_yes 98 ⟨#[98]⟩ [[97], [98]] W rfl (by decide +kernel) (by decide) (by decide) hV).mono fun e w' ⟨A, k, he, _, ho, hB⟩ => ⟨A, k, he, sps.lst_own (zs := [La, Lb]) rfl ho, hB⟩
theorem no_end : decide (0 ≤ Lib.indexByte P1 10) = false := by decide +kernel
theorem lines_two (W : World) (hV : num.Vars W.heap.size W) : Calls Tryz.prog 58 #[.string (B P1)] W fun e w' => ∃ A k, e = .returned (.tuple #[.slice A 2 k, .bool true]) ∧ Lst w' (W.heap.size ≤ ·) A 2 k [La, Lb] ∧ Below W.heap.size W w' := by
  have K1 := Lib.hid (first_two W hV)
  have K2 : ∀ V, Calls Tryz.prog 83 #[.string (B P1), .string ⟨#[10]⟩] V fun e w' => e = .returned (.bool false) ∧ w' = V := fun V => by
    have C := contains38 (B P1) 10 V
    rw [list_B, no_end] at C
    exact C
  have K2 := Lib.hid K2
  clear hV
  generalize B P1 = p at *
  go_enter Tryz.func58, Tryz.ntmps58
  go_wp2_with (first
    | (go_at_call 82; (with_reducible refine K1.out.mono ?_); rintro e w1 ⟨A, k, rfl, hL, hB⟩)
    | (go_at_call 83; (with_reducible refine (K2.out _).mono ?_); rintro e w2 ⟨rfl, rfl⟩))
  go_ret2
  exact ⟨A, k, rfl, hL, hB⟩
theorem lead_two (A : Option Addr) (c : Nat) (Bo : Option Addr) (c' : Nat) (A2 : Option Addr) (k2 : Nat) (w : World) (hL : Lst w (fun _ => True) A 2 c [La, Lb]) (hC : Cuts w (fun _ => True) Bo [⟨1, 0, A2, k2, [Lx]⟩]) :
    Calls Tryz.prog 60 #[.slice A 2 c, .slice Bo 1 c'] w fun e w' => ∃ v, e = .returned (.tuple #[v, .bool true]) ∧ Lines w [La, Lx, Lb] v w' := by
  have K := Lib.hid (all_two A c Bo c' A2 k2 w hL hC)
  clear hL hC
  go_enter Tryz.func60, Tryz.ntmps60
  go_wp2_with (go_at_call 85; (with_reducible refine K.out.mono ?_); rintro e w1 ⟨v, rfl, hl⟩)
  go_ret2
  exact ⟨v, rfl, hl⟩
theorem lead_none (A : Option Addr) (c : Nat) (Bo : Option Addr) (c' : Nat) (w : World) :
    Calls Tryz.prog 60 #[.slice A 2 c, .slice Bo 0 c'] w fun e w' => e = .returned (.tuple #[.slice A 2 c, .bool true]) ∧ w' = w := by
  go_enter Tryz.func60, Tryz.ntmps60
  go_wp2
  go_ret2
  exact ⟨rfl, rfl⟩
theorem whole_two (w : World) (hV : frm.Vars w.heap.size w) : Calls Tryz.prog 57 #[.string (B (J ++ K))] w fun e w' => ∃ b o c k, e = .returned (.tuple #[.slice (some ⟨b, o, none⟩) 2 c, .int .i64 k]) ∧ 2 ≤ c ∧ b < w'.heap.size ∧ w'.cell? ⟨b, o, none⟩ = some (.string (B P1)) ∧ w'.cell? ⟨b, o + 1, none⟩ = some (.string (B C1)) ∧ Below w.heap.size w w' := by
  refine (frm.whole17 (B (J ++ K)) w (by rw [B_size]; have := JK_len; omega) hV).mono ?_
  rintro e w' ⟨hB, ps, A, n, c, k, hw, hn, hk, hnc, hcm, he, hS⟩
  rw [list_B] at hw
  obtain rfl := whole2 hw
  subst hn
  obtain ⟨b, o, rfl, hb, hc⟩ := hS (by simp)
  exact ⟨b, o, c, k, he, hnc, hb, hc 0 (by simp), hc 1 (by simp), hB⟩
theorem whole_one (w : World) (hV : frm.Vars w.heap.size w) : Calls Tryz.prog 57 #[.string (B J)] w fun e w' => ∃ b o c k, e = .returned (.tuple #[.slice (some ⟨b, o, none⟩) 1 c, .int .i64 k]) ∧ 1 ≤ c ∧ b < w'.heap.size ∧ w'.cell? ⟨b, o, none⟩ = some (.string (B P1)) ∧ Below w.heap.size w w' := by
  refine (frm.whole17 (B J) w (by rw [B_size]; have := J_len; omega) hV).mono ?_
  rintro e w' ⟨hB, ps, A, n, c, k, hw, hn, hk, hnc, hcm, he, hS⟩
  rw [list_B] at hw
  obtain rfl := whole1 hw
  subst hn
  obtain ⟨b, o, rfl, hb, hc⟩ := hS (by simp)
  exact ⟨b, o, c, k, he, hnc, hb, hc 0 (by simp), hB⟩

set_option maxHeartbeats 4000000 in
set_option maxRecDepth 100000 in
theorem read_two (w : World) (hV : frm.Vars w.heap.size w) :
    Calls Tryz.prog 34 #[.string (B (J ++ K))] w fun e w' => ∃ v, e = .returned (.tuple #[v, .int .i64 1, .bool true]) ∧ Lines w [La, Lx, Lb] v w' := by
  obtain ⟨i0, hi, hz0, hz1, hz2⟩ := info_parts infoS
  have K1 := Lib.hid (whole_two w hV)
  have HV := Lib.hid hV
  clear hV
  generalize B (J ++ K) = t at *
  have K2 := Lib.hid (fun W (h : frm.Vars W.heap.size W) => lines_two W h.1)
  have K3 := Lib.hid (fun W (h : frm.Vars W.heap.size W) => getChange_one W h.1)
  generalize B P1 = p1 at *
  generalize B C1 = c1 at *
  go_enter Tryz.func34, Tryz.ntmps34
  go_wp2_with (first
    | (go_at_call 57; (with_reducible refine K1.out.mono ?_); rintro e w1 ⟨b, o, c, k, rfl, hc2, hb, v0, v1, hB1⟩; have T := fun W => tail_two b o c hc2 W)
    | (go_at_call 58; (with_reducible refine (K2.out _ (HV.out.next hB1)).mono ?_); rintro e w2 ⟨A2, k2, rfl, hL2, hB2⟩; have v1' := (hB2.cell (p := ⟨b, o + 1, none⟩) hb).trans v1; have hB12 := hB1.trans (hB2.mono hB1.size)))
  refine wp_loop_rounds 2 ?_
  rw [rounds_succ]
  go_wp2_with (first
    | (go_at_call 59; (with_reducible refine (K3.out _ (HV.out.next hB12)).mono ?_); rintro e w3 ⟨A3, k3, A4, k4, rfl, ho3, ho4, hB3⟩; have hC3 := one_cuts ho3 ho4; obtain ⟨b3, o3, rfl, hb3, hc3⟩ := own_cells ho3 (by omega) (by simp); have hL3 := hL2.below hB3; have hB13 := hB12.trans (hB3.mono hB12.size))
    | (at_builtin; refine wpList_append_own _ rfl (.tmp 44) (.tmp 45) 23 rfl w.heap.size 46 i0 _ 3 40 Tryz.underlying23 hi hz0 hz1 hz2 rfl (by decide) _ 0 [] rfl (World.ownsRow_nil _ _ _ _) ⟨b3, o3, none⟩ 1 k3 [.int .i64 1, .int .i64 0, .slice A4 1 k4] rfl rfl hc3 (by simp [Value.oneCell']) (by unfold maxLen; omega) (by omega) hB13.size ?_; intro v5 w5 hown5 hgrow5 _))
  have hg : Below w3.heap.size w3 w5 := (Below.refl _ w3).grown hgrow5 (Nat.le_refl _) (fun j hj => by cases hj)
  have hB15 := hB13.trans (hg.mono hB13.size)
  rw [Nat.zero_add, List.nil_append] at hown5
  obtain ⟨A5, k5, rfl⟩ := own_form3 hown5
  have K5 := Lib.hid (lead_two A2 k2 A5 k5 A4 k4 w5 (hL3.any.below hg) (one_cuts hown5 (frm.own_below ho4 hg)))
  clear hown5 ho3 ho4 hC3 hL3 hL2 hc3 hgrow5
  rw [rounds_succ]
  go_wp2_with (go_at_call 60; (with_reducible refine K5.out.mono ?_); rintro e w6 ⟨v6, rfl, A6, k6, rfl, hL6, hB6⟩)
  go_ret3
  exact ⟨_, rfl, A6, k6, rfl, hL6.mono (fun b hb _ => Nat.le_trans hB15.size hb), hB15.trans (hB6.mono hB15.size)⟩

set_option maxHeartbeats 4000000 in
set_option maxRecDepth 100000 in
theorem read_one (w : World) (hV : frm.Vars w.heap.size w) :
    Calls Tryz.prog 34 #[.string (B J)] w fun e w' => ∃ v, e = .returned (.tuple #[v, .int .i64 0, .bool true]) ∧ Lines w [La, Lb] v w' := by
  have K1 := Lib.hid (whole_one w hV)
  have HV := Lib.hid hV
  clear hV
  generalize B J = t at *
  have K2 := Lib.hid (fun W (h : frm.Vars W.heap.size W) => lines_two W h.1)
  generalize B P1 = p1 at *
  go_enter Tryz.func34, Tryz.ntmps34
  go_wp2_with (first
    | (go_at_call 57; (with_reducible refine K1.out.mono ?_); rintro e w1 ⟨b, o, c, k, rfl, hc2, hb, v0, hB1⟩; have T := fun W => tail_one (some ⟨b, o, none⟩) c W)
    | (go_at_call 58; (with_reducible refine (K2.out _ (HV.out.next hB1)).mono ?_); rintro e w2 ⟨A2, k2, rfl, hL2, hB2⟩; have hB12 := hB1.trans (hB2.mono hB1.size)))
  have HL := Lib.hid hL2
  clear hL2
  have K5 := Lib.hid (fun Bo c' W => lead_none A2 k2 Bo c' W)
  refine wp_loop_rounds 1 ?_
  rw [rounds_succ]
  go_wp2_with (go_at_call 60; (with_reducible refine (K5.out _ _ _).mono ?_); rintro e w6 ⟨rfl, rfl⟩)
  go_ret3
  exact ⟨_, rfl, A2, k2, rfl, HL.out.mono (fun b hb _ => Nat.le_trans hB1.size hb), hB12⟩
end Go.Proofs.YtmknbakfjhjfmaaGreatDoor.lgs

/-! Logs: the payloads of lines, and of the chapter's change. -/
namespace Go.Proofs.YtmknbakfjhjfmaaGreatDoor.lgs
open Go.RowKit Go.Lib Go.Proofs.YtmknbakfjhjfmaaGreatDoor.pce
set_option linter.unusedVariables false
set_option linter.unusedSimpArgs false
set_option linter.unnecessarySimpa false
set_option linter.unusedSectionVars false

theorem cat_one (c : UInt8) (l : List UInt8) : (⟨#[c]⟩ : ByteArray) ++ B l = B (c :: l) := num.B_append [c] l
theorem putLines_is (A : Option Addr) (c n : Nat) (zs : List ByteArray) (w : World) (hn : n = zs.length) (hb : n ≤ 100000) (ht : tot zs ≤ 1000000) (h : SRd w w.heap.size A zs) (hq : (num.putL (num.bytesOf zs)).length ≤ 999999) (hV : num.Vars w.heap.size w) :
    Calls Tryz.prog 25 #[.slice A n c] w fun e w' => e = .returned (.string (B (98 :: num.putL (num.bytesOf zs)))) ∧ Below w.heap.size w w' := by
  have K1 := num.putList16 A c n zs w hn hb ht h hV
  have e : (⟨#[98]⟩ : ByteArray) ++ B (num.putL (num.bytesOf zs)) = B (98 :: num.putL (num.bytesOf zs)) := cat_one _ _
  have hz : ¬ 9223372036854775807 < 1 + (B (num.putL (num.bytesOf zs))).size := by rw [B_size]; omega
  clear hq
  generalize B (98 :: num.putL (num.bytesOf zs)) = r at *
  generalize B (num.putL (num.bytesOf zs)) = q at *
  have K1 := Lib.hid K1
  have HE := Lib.hid e
  clear e hn hb ht h hV
  go_enter Tryz.func25, Tryz.ntmps25
  go_wp2_with (go_at_call 38; (with_reducible refine K1.out.mono ?_); rintro e w1 ⟨rfl, hB1⟩)
  go_ret
  exact ⟨num.ret_str HE.out, hB1⟩

theorem encode_one (A2 : Option Addr) (k2 : Nat) (W : World) (hL : Lst W (fun _ => True) A2 1 k2 [Lx]) (hV : num.Vars W.heap.size W) :
    Calls Tryz.prog 37 #[.agg #[.int .i64 1, .int .i64 0, .slice A2 1 k2]] W fun e w' => e = .returned (.tuple #[.string (B (sps.enc 1 0 [[120]])), .int .i64 0]) ∧ Below W.heap.size W w' := by
  refine (sps.encode_is 1 0 A2 1 k2 [Lx] W 0 (by decide) (by omega) (by omega) (by omega) (by omega) rfl (by omega) (by decide) hL.srd (sps.VarT.of hV)).mono ?_
  rintro e w' ⟨hB, ⟨h0, _⟩ | ⟨_, rfl⟩⟩
  · exact absurd rfl h0
  · exact ⟨rfl, hB⟩

set_option maxHeartbeats 4000000 in
set_option maxRecDepth 100000 in
theorem putChange_one (b c : Nat) (A2 : Option Addr) (k2 : Nat) (w : World) (hA : At w b 46 #[.int .i64 1, .int .i64 0, .slice A2 1 k2]) (hL : Lst w (fun _ => True) A2 1 k2 [Lx]) (hV : num.Vars w.heap.size w) :
    Calls Tryz.prog 18 #[.slice (some ⟨b, 0, none⟩) 1 c] w fun e w' => e = .returned (.tuple #[.string (B C1), .int .i64 0]) ∧ Below w.heap.size w w' := by
  obtain ⟨i0, hi, hz0, hz1, hz2⟩ := info_parts info9
  obtain ⟨w1, hw1⟩ : ∃ w1, w.alloc (.cells #[.int .i64 1, .int .i64 0, .slice A2 1 k2] 46) = w1 := ⟨_, rfl⟩
  have hA1 := At.new w 46 #[.int .i64 1, .int .i64 0, .slice A2 1 k2]
  have hB1 : Below w.heap.size w w1 := hw1 ▸ (Below.refl _ _).alloc (Nat.le_refl _) _
  rw [hw1] at hA1
  have x0 := hA.cell 0
  have x1 := hA.cell 1
  have x2 := hA.cell 2
  have y0 := hA1.cell 0
  have y1 := hA1.cell 1
  have y2 := hA1.cell 2
  have K1 := Lib.hid (encode_one A2 k2 w1 (hL.below hB1) (hV.next hB1))
  have K2 := Lib.hid (fun (W : World) (hW : Below w.heap.size w W) A c (h : SRd W W.heap.size A [B (sps.enc 1 0 [[120]])]) => num.putList16 A c 1 [B (sps.enc 1 0 [[120]])] W rfl (by omega) (by decide +kernel) h (hV.next hW))
  have hz : ¬ 9223372036854775807 < 1 + (B (num.putL (num.bytesOf [B (sps.enc 1 0 [[120]])]))).size := by decide +kernel
  have e : (⟨#[99]⟩ : ByteArray) ++ B (num.putL (num.bytesOf [B (sps.enc 1 0 [[120]])])) = B C1 := cat_one _ _
  generalize B (num.putL (num.bytesOf [B (sps.enc 1 0 [[120]])])) = q at *
  generalize B C1 = r at *
  generalize B (sps.enc 1 0 [[120]]) = z at *
  have HE := Lib.hid e
  clear e hA hL hV hA1
  go_enter Tryz.func18, Tryz.ntmps18
  go_wp2
  refine wp_loop_rounds 2 ?_
  rw [rounds_succ]
  go_wp2_with (first
    | (refine sps.wpList_storeL rfl (.tmp 6) (.tmp 14) rfl w _ _ _ rfl 1 0 A2 1 k2 (by first | rfl | simp [Act.eval, Act.put]) (by first | rfl | simp [Act.eval, Act.put]) ?_; rw [hw1])
    | (go_at_call 37; (with_reducible refine K1.out.mono ?_); rintro e w2 ⟨rfl, hB2⟩; have hB12 := hB1.trans (hB2.mono hB1.size))
    | (at_builtin; refine wpList_append_own _ rfl (.tmp 23) (.tmp 25) 22 rfl w.heap.size 9 i0 (.string ⟨#[]⟩) 1 16 Tryz.underlying22 hi hz0 hz1 hz2 rfl (by decide) _ 0 [] rfl (World.ownsRow_nil _ _ _ _) ⟨w2.heap.size, 0, none⟩ 1 1 [.string z] rfl rfl (at_cells (At.new w2 _ _)) (by simp [Value.oneCell']) (by unfold maxLen; omega) (by omega) (by have := hB12.size; simp; omega) ?_; intro v5 w5 hown5 hgrow5 _))
  have hg : Below w2.heap.size w2 w5 := ((Below.refl _ w2).alloc (Nat.le_refl _) _).grown hgrow5 (by simp) (fun j hj => by cases hj)
  have hB15 := hB12.trans (hg.mono hB12.size)
  rw [Nat.zero_add, List.nil_append] at hown5
  obtain ⟨A5, k5, rfl⟩ := own_form3 hown5
  have K5 := Lib.hid (K2.out w5 hB15 A5 k5 (frm.SRd.of_row (zs := [z]) rfl hown5))
  clear hown5 hgrow5 hg
  rw [rounds_succ]
  go_wp2_with (go_at_call 38; (with_reducible refine K5.out.mono ?_); rintro e w6 ⟨rfl, hB6⟩)
  go_ret2
  exact ⟨congrArg (fun x => Ending.returned (.tuple #[.string x, .int .i64 0])) HE.out, hB15.trans (hB6.mono hB15.size)⟩
end Go.Proofs.YtmknbakfjhjfmaaGreatDoor.lgs
