/- SavesWhole, walked. -/
import Derived.Test.YtlbhegicapggeaaSavRun
import Derived.Test.YtlbhegicapggeaaSavGreat
namespace Go.Proofs.Ytlbhegicapggeaa.sav
open Go.RowKit Go.Lib Go.Maps Go.WideMaps fil
set_option linter.unusedVariables false
set_option linter.unusedSimpArgs false
set_option linter.unnecessarySimpa false
set_option linter.unusedSectionVars false

/-- The file's name: file. -/
def fn4 : List UInt8 := [102, 105, 108, 101]
theorem fn4_tx : isTx fn4 = true := rfl
/-- What the file has: nothing is there, or just this text, whole. -/
def Held (s : St) (o : Option (List UInt8)) : Prop := find s.files fn4 = o.map fun c => ⟨fn4, c, c.length⟩
theorem Held.whole {s : St} {o : Option (List UInt8)} (h : Held s o) : Whole (find s.files fn4) := by
  intro x hx
  rw [h] at hx
  rcases o with _ | c
  · cases hx
  · injection hx with hx; rw [← hx]
def told : Option (List UInt8) → List UInt8 × Int
  | none => ([], 4)
  | some c => (c, 0)
theorem Held.load {s : St} {o : Option (List UInt8)} (h : Held s o) (hon : s.off = false) : sLoad s fn4 = told o := by
  unfold sLoad
  rw [if_neg (by rw [hon]; decide), if_pos fn4_tx, h]
  cases o <;> rfl
/-- What the law's round finds behind a Write. -/
theorem held_write {s : St} (hok : Ok s) (hon : s.off = false) {o : Option (List UInt8)} (h : Held s o) (t : List UInt8) :
    ((sWrite s fn4 t).1 = 0 ∧ (sWrite s fn4 t).2.off = false ∧ Held (sWrite s fn4 t).2 (some t)) ∨
    ((sWrite s fn4 t).1 = 50 ∧ (sWrite s fn4 t).2.off = false ∧ Held (sWrite s fn4 t).2 o) ∨
    ((sWrite s fn4 t).1 = 51 ∧ (sWrite s fn4 t).2.off = true ∧ Held (sWrite s fn4 t).2 o) := by
  rcases (write_file hok hon (t := t) fn4_tx h.whole).it with ⟨h1, h2, h3⟩ | ⟨h1, h2, h3⟩ | ⟨h1, h2, h3⟩
  · exact .inl ⟨h1, h2, h3⟩
  · exact .inr (.inl ⟨h1, h2, h3.trans h⟩)
  · exact .inr (.inr ⟨h1, h2, h3.trans h⟩)
theorem fail_on {s : St} (hon : s.off = false) (m : Nat) (ks : List Int) : sFail s (m : Int) ks = (0, { s with due := some (m, ks.take 32) }) := by
  unfold sFail
  rw [if_neg (by rw [hon]; decide), if_neg (by omega), Int.toNat_natCast]
theorem start_off {s : St} (h : s.off = true) : sStart s = (0, { s with off := false, starts := s.starts + 1 }) := by
  unfold sStart
  rw [if_pos h]

set_option maxHeartbeats 4000000 in
set_option maxRecDepth 100000 in
theorem lawWhole (size : Nat) (A : Option Addr) (c n : Nat) (zs : List ByteArray) (Aa : Option Addr) (na ca : Nat) (us : List UInt8) (Ak : Option Addr) (nk ck : Nat) (ks : List Int) (w : World) (hsz : size < 65536)
    (hn : n = zs.length) (hn9 : n ≤ 9223372036854775807) (hzs : ∀ z ∈ zs, z.size ≤ maxLen) (hl : SRd w w.heap.size A zs)
    (hna : na = us.length) (hna9 : na ≤ 9223372036854775807) (ha : LRd w 0 w.heap.size Aa (bv us)) (hnk : nk = ks.length) (hnkc : nk ≤ ck) (hck : ck ≤ maxLen) (hk : LRd w 0 w.heap.size Ak (iv ks))
    (hdoes : Hid (∀ W, Calls Try.prog 12 #[] W fun e w' => e = .returned (.bool true) ∧ Below W.heap.size W w')) :
    Calls Try.prog 4 #[.int .u16 size, .slice A n c, .agg #[.slice Aa na ca, .slice Ak nk ck]] w fun e w' => e = .returned (.bool true) ∧ Below w.heap.size w w' := by
  subst hnk
  have hck9 : ck ≤ 9223372036854775807 := by unfold maxLen at hck; omega
  have hnk9 : ks.length ≤ 9223372036854775807 := by omega
  have HN := Lib.hid hn
  have HZ := Lib.hid hzs
  have HL := Lib.hid hl
  have HNA := Lib.hid hna
  have HA := Lib.hid ha
  have HK := Lib.hid hk
  clear hn hzs hl hna ha hk
  go_enter Try.func4, Try.ntmps4
  go_wp2_with fail
  go_region
  have HB0 : Below w.heap.size w ((w.alloc (.cells #[.slice Aa na ca, .slice Ak ks.length ck] 42)).drew) := below_drew ((Below.refl _ w).alloc (Nat.le_refl _) _)
  generalize (w.alloc (.cells #[.slice Aa na ca, .slice Ak ks.length ck] 42)).drew = wq at *
  have CG := Lib.hid (great A c w.heap.size n 60 20000 zs wq HN.out hn9 (by omega) (by omega) HZ.out (HL.out.below HB0))
  have hzq := HB0.size
  have HB := Lib.hid HB0
  clear HB0
  go_wp2_with fail
  go_at_call 13
  refine CG.out.mono ?_
  rintro e w' ⟨he, rfl⟩
  clear CG
  rcases he with rfl | ⟨rfl, h60, htot⟩
  · go_wp2
    go_ret
    exact ⟨rfl, HB.out⟩
  rw [← HN.out] at h60
  by_cases z1 : 60 < na
  · go_wp2
    go_ret
    exact ⟨rfl, HB.out⟩
  by_cases z2 : 60 < ks.length
  · go_wp2
    go_ret
    exact ⟨rfl, HB.out⟩
  have HTT := Lib.hid htot
  clear htot
  have C0 := new_run (1 + size) wq (by omega) (by omega)
  rw [show ((1 + size : Nat) : Int) = 1 + (size : Int) by omega] at C0
  have C0 := Lib.hid C0
  have hw1 : IntKind.i64.wrap (1 + (size : Int)) = 1 + (size : Int) := IntWalk.i64_in _ (by omega)
  go_wp2_with fail
  go_at_call 7
  refine C0.out.mono ?_
  rintro e w1 ⟨rfl, hR⟩
  clear C0
  have h0 : (sNew (1 + size)).starts ≤ 0 := Nat.le_refl _
  have hh : Held (sNew (1 + size)) none := rfl
  have hf : (sNew (1 + size)).off = false := rfl
  generalize sNew (1 + size) = s0 at *
  have H0 : Hid (Run wq.heap.size wq (wq.heap.size + 1) s0 w1 ∧ s0.off = false ∧ s0.starts ≤ 0 ∧ Held s0 none) := Lib.hid ⟨hR, hf, h0, hh⟩
  clear hR hf h0 hh
  go_wp2
  go_loopg [11, 12, 13] n (fun g s11 s12 s13 wr => ∃ (i : Nat) (s : St) (o : Option (List UInt8)) (x : ByteArray), s13 = .int .i64 i ∧ s11 = .bool o.isSome ∧ s12 = .string x ∧ i ≤ n ∧ n - i ≤ g ∧ Hid (Run wq.heap.size wq (wq.heap.size + 1) s wr ∧ s.off = false ∧ s.starts ≤ i ∧ Held s o) ∧ Hid (∀ c, o = some c → x = B c))
  case atStart => exact ⟨0, s0, none, ⟨#[]⟩, rfl, rfl, rfl, Nat.zero_le _, by omega, H0, Lib.hid (fun c e => by cases e)⟩
  case round =>
    obtain ⟨i, s, o, x, rfl, rfl, rfl, hi, hg, HR, HX⟩ := hrel
    by_cases hlt : i < n
    · obtain ⟨p1, o1, rfl, hp1, hc1⟩ := (HL.out.below HB.out) (by rw [← HN.out]; omega)
      have hkz : i < zs.length := by rw [← HN.out]; exact hlt
      have hzz : (zs.getD i ByteArray.empty).size ≤ maxLen := HZ.out _ (by simp [List.getD, List.getElem?_eq_getElem hkz])
      have hc2 := hc1 i hkz
      clear hc1 hkz
      generalize zs.getD i ByteArray.empty = z at *
      have HZZ := Lib.hid hzz
      have hz9 : z.size ≤ 9223372036854775807 := by unfold maxLen at hzz; omega
      have HQ : Hid (∀ W s, Run wq.heap.size wq (wq.heap.size + 1) s W → W.cell? ⟨p1, o1 + i, none⟩ = some (.string z)) := Lib.hid fun W s h => (h.below.cell (p := ⟨p1, o1 + i, none⟩) (show p1 < wq.heap.size by omega)).trans hc2
      clear hzz hc2
      rcases o with _ | c0
      · by_cases hia : i < na
        · obtain ⟨b2, o2, rfl, hb2, hb3, hb4⟩ := (HA.out.belowN HB.out) (by rw [bv_length, ← HNA.out]; omega)
          have hiu : i < us.length := by rw [← HNA.out]; exact hia
          have hc3 := hb4 i _ (show (bv us)[i]? = some (.int .u8 (us[i]'hiu).toNat) by simp [bv, List.getElem?_eq_getElem hiu])
          have hr := HR.out.1
          have k6 : wr.cell? ⟨b2, o2 + i, none⟩ = some (.int .u8 (us[i]'hiu).toNat) := (hr.below.cell (p := ⟨b2, o2 + i, none⟩) (show b2 < wq.heap.size by omega)).trans hc3
          have hu8 : (us[i]'hiu).toNat < 256 := (us[i]'hiu).toNat_lt
          clear hb4 hc3
          generalize (us[i]'hiu).toNat = u at *
          obtain ⟨m, hm, hm8⟩ : ∃ m, u % 8 = m ∧ m < 8 := ⟨_, rfl, by omega⟩
          have hz : (u : Int) % 8 = (m : Int) := by omega
          have C := fail_run Ak ck (m : Int) ks hnkc hck9 (by omega) (((HK.out.belowN HB.out).more (Nat.le_refl _) hzq).belowN hr.below) hr
          rw [fail_on HR.out.2.1] at C
          have C := Lib.hid C
          clear hm hr hiu
          go_wp2_with fail
          go_at_call 14
          refine C.out.mono ?_
          rintro e w2 ⟨rfl, hR2⟩
          have HR1 : Hid (Run wq.heap.size wq (wq.heap.size + 1) { s with due := some (m, ks.take 32) } w2 ∧ ({ s with due := some (m, ks.take 32) } : St).off = false ∧ ({ s with due := some (m, ks.take 32) } : St).starts ≤ i ∧ Held { s with due := some (m, ks.take 32) } (none)) := Lib.hid ⟨hR2, HR.out.2.1, HR.out.2.2.1, HR.out.2.2.2⟩
          clear C hR2 k6
          generalize ({ s with due := some (m, ks.take 32) } : St) = s1 at *
          have hR := HR1.out.1
          have C := write_run ⟨#[102, 105, 108, 101]⟩ z (by decide) HZZ.out hR
          rw [show (⟨#[102, 105, 108, 101]⟩ : ByteArray).data.toList = fn4 from rfl] at C
          have HW := held_write hR.ok HR1.out.2.1 HR1.out.2.2.2 z.data.toList
          have hst := write_starts s1 fn4 z.data.toList
          have k4 := HQ.out _ _ hR
          generalize sWrite s1 fn4 z.data.toList = r at C HW hst
          obtain ⟨g, s2⟩ := r
          simp only at C HW hst
          have C := Lib.hid C
          clear hR
          rcases HW with ⟨rfl, h2, h3⟩ | ⟨rfl, h2, h3⟩ | ⟨rfl, h2, h3⟩
          · go_wp2_with fail
            go_at_call 10
            refine C.out.mono ?_
            rintro e w3 ⟨rfl, hR3⟩
            clear C
            have CU := up_run hR3
            rw [h2] at CU
            have CU := Lib.hid CU
            go_wp2_with fail
            go_at_call 15
            refine CU.out.mono ?_
            rintro e w' ⟨rfl, rfl⟩
            go_wp2_with fail
            go_at_call 15
            refine CU.out.mono ?_
            rintro e w' ⟨rfl, rfl⟩
            clear CU
            have CL := load_run ⟨#[102, 105, 108, 101]⟩ (by decide) hR3
            rw [show (⟨#[102, 105, 108, 101]⟩ : ByteArray).data.toList = fn4 from rfl, (h3).load h2] at CL
            simp only [told] at CL
            simp only [B_list] at CL
            have HN2 : Hid (Run wq.heap.size wq (wq.heap.size + 1) s2 w3 ∧ s2.off = false ∧ s2.starts ≤ i + 1 ∧ Held s2 (some z.data.toList)) := Lib.hid ⟨hR3, h2, by have := HR1.out.2.2.1; omega, h3⟩
            have k5 := HQ.out _ _ hR3
            clear hR3 h2 h3 hst HR1 HR
            have CL := Lib.hid CL
            go_wp2_with fail
            go_at_call 9
            refine CL.out.mono ?_
            rintro e w' ⟨rfl, rfl⟩
            clear CL
            go_wp2
            all_goals
              go_roundg (n - (i + 1))
              case measure => omega
              case rel => exact ⟨i + 1, s2, some z.data.toList, z, by go_num, rfl, rfl, by omega, by omega, HN2, Lib.hid (fun c e => by injection e with e; rw [← e, B_list])⟩
          · go_wp2_with fail
            go_at_call 10
            refine C.out.mono ?_
            rintro e w3 ⟨rfl, hR3⟩
            clear C
            have CU := up_run hR3
            rw [h2] at CU
            have CU := Lib.hid CU
            go_wp2_with fail
            go_at_call 15
            refine CU.out.mono ?_
            rintro e w' ⟨rfl, rfl⟩
            go_wp2_with fail
            go_at_call 15
            refine CU.out.mono ?_
            rintro e w' ⟨rfl, rfl⟩
            clear CU
            have CL := load_run ⟨#[102, 105, 108, 101]⟩ (by decide) hR3
            rw [show (⟨#[102, 105, 108, 101]⟩ : ByteArray).data.toList = fn4 from rfl, (h3).load h2] at CL
            simp only [told] at CL
            have HN2 : Hid (Run wq.heap.size wq (wq.heap.size + 1) s2 w3 ∧ s2.off = false ∧ s2.starts ≤ i + 1 ∧ Held s2 (none)) := Lib.hid ⟨hR3, h2, by have := HR1.out.2.2.1; omega, h3⟩
            have k5 := HQ.out _ _ hR3
            clear hR3 h2 h3 hst HR1 HR
            have CL := Lib.hid CL
            go_wp2_with fail
            go_at_call 9
            refine CL.out.mono ?_
            rintro e w' ⟨rfl, rfl⟩
            clear CL
            go_wp2
            all_goals
              go_roundg (n - (i + 1))
              case measure => omega
              case rel => exact ⟨i + 1, s2, none, B [], by go_num, rfl, rfl, by omega, by omega, HN2, Lib.hid (fun c e => by cases e)⟩
          · go_wp2_with fail
            go_at_call 10
            refine C.out.mono ?_
            rintro e w3 ⟨rfl, hR3⟩
            clear C
            have CU := up_run hR3
            rw [h2] at CU
            have CU := Lib.hid CU
            go_wp2_with fail
            go_at_call 15
            refine CU.out.mono ?_
            rintro e w' ⟨rfl, rfl⟩
            go_wp2_with fail
            go_at_call 15
            refine CU.out.mono ?_
            rintro e w' ⟨rfl, rfl⟩
            clear CU
            have CS := start_run (by have := HR1.out.2.2.1; omega) hR3
            rw [start_off h2] at CS
            have CS := Lib.hid CS
            go_wp2_with fail
            go_at_call 16
            refine CS.out.mono ?_
            rintro e w4 ⟨rfl, hR4⟩
            clear CS
            have hh4 : Held (⟨s2.cap, s2.files, false, s2.starts + 1, s2.due⟩ : St) (none) := h3
            generalize hs4 : (⟨s2.cap, s2.files, false, s2.starts + 1, s2.due⟩ : St) = s4 at *
            have ho4 : s4.off = false := by rw [← hs4]
            have hs5 : s4.starts = s2.starts + 1 := by rw [← hs4]
            have CL := load_run ⟨#[102, 105, 108, 101]⟩ (by decide) hR4
            rw [show (⟨#[102, 105, 108, 101]⟩ : ByteArray).data.toList = fn4 from rfl, (hh4).load ho4] at CL
            simp only [told] at CL
            have HN2 : Hid (Run wq.heap.size wq (wq.heap.size + 1) s4 w4 ∧ s4.off = false ∧ s4.starts ≤ i + 1 ∧ Held s4 (none)) := Lib.hid ⟨hR4, ho4, by have := HR1.out.2.2.1; omega, hh4⟩
            have k5 := HQ.out _ _ hR4
            clear hR3 hR4 h2 h3 hst HR1 HR hh4 hs4 ho4 hs5
            have CL := Lib.hid CL
            go_wp2_with fail
            go_at_call 9
            refine CL.out.mono ?_
            rintro e w' ⟨rfl, rfl⟩
            clear CL
            go_wp2
            all_goals
              go_roundg (n - (i + 1))
              case measure => omega
              case rel => exact ⟨i + 1, s4, none, B [], by go_num, rfl, rfl, by omega, by omega, HN2, Lib.hid (fun c e => by cases e)⟩
        · have HR1 := HR
          generalize hs1 : s = s1 at HR1
          generalize hw2 : wr = w2 at HR1
          subst hs1 hw2
          have HR1 := HR
          have hR := HR1.out.1
          have C := write_run ⟨#[102, 105, 108, 101]⟩ z (by decide) HZZ.out hR
          rw [show (⟨#[102, 105, 108, 101]⟩ : ByteArray).data.toList = fn4 from rfl] at C
          have HW := held_write hR.ok HR1.out.2.1 HR1.out.2.2.2 z.data.toList
          have hst := write_starts s fn4 z.data.toList
          have k4 := HQ.out _ _ hR
          generalize sWrite s fn4 z.data.toList = r at C HW hst
          obtain ⟨g, s2⟩ := r
          simp only at C HW hst
          have C := Lib.hid C
          clear hR
          rcases HW with ⟨rfl, h2, h3⟩ | ⟨rfl, h2, h3⟩ | ⟨rfl, h2, h3⟩
          · go_wp2_with fail
            go_at_call 10
            refine C.out.mono ?_
            rintro e w3 ⟨rfl, hR3⟩
            clear C
            have CU := up_run hR3
            rw [h2] at CU
            have CU := Lib.hid CU
            go_wp2_with fail
            go_at_call 15
            refine CU.out.mono ?_
            rintro e w' ⟨rfl, rfl⟩
            go_wp2_with fail
            go_at_call 15
            refine CU.out.mono ?_
            rintro e w' ⟨rfl, rfl⟩
            clear CU
            have CL := load_run ⟨#[102, 105, 108, 101]⟩ (by decide) hR3
            rw [show (⟨#[102, 105, 108, 101]⟩ : ByteArray).data.toList = fn4 from rfl, (h3).load h2] at CL
            simp only [told] at CL
            simp only [B_list] at CL
            have HN2 : Hid (Run wq.heap.size wq (wq.heap.size + 1) s2 w3 ∧ s2.off = false ∧ s2.starts ≤ i + 1 ∧ Held s2 (some z.data.toList)) := Lib.hid ⟨hR3, h2, by have := HR1.out.2.2.1; omega, h3⟩
            have k5 := HQ.out _ _ hR3
            clear hR3 h2 h3 hst HR1 HR
            have CL := Lib.hid CL
            go_wp2_with fail
            go_at_call 9
            refine CL.out.mono ?_
            rintro e w' ⟨rfl, rfl⟩
            clear CL
            go_wp2
            all_goals
              go_roundg (n - (i + 1))
              case measure => omega
              case rel => exact ⟨i + 1, s2, some z.data.toList, z, by go_num, rfl, rfl, by omega, by omega, HN2, Lib.hid (fun c e => by injection e with e; rw [← e, B_list])⟩
          · go_wp2_with fail
            go_at_call 10
            refine C.out.mono ?_
            rintro e w3 ⟨rfl, hR3⟩
            clear C
            have CU := up_run hR3
            rw [h2] at CU
            have CU := Lib.hid CU
            go_wp2_with fail
            go_at_call 15
            refine CU.out.mono ?_
            rintro e w' ⟨rfl, rfl⟩
            go_wp2_with fail
            go_at_call 15
            refine CU.out.mono ?_
            rintro e w' ⟨rfl, rfl⟩
            clear CU
            have CL := load_run ⟨#[102, 105, 108, 101]⟩ (by decide) hR3
            rw [show (⟨#[102, 105, 108, 101]⟩ : ByteArray).data.toList = fn4 from rfl, (h3).load h2] at CL
            simp only [told] at CL
            have HN2 : Hid (Run wq.heap.size wq (wq.heap.size + 1) s2 w3 ∧ s2.off = false ∧ s2.starts ≤ i + 1 ∧ Held s2 (none)) := Lib.hid ⟨hR3, h2, by have := HR1.out.2.2.1; omega, h3⟩
            have k5 := HQ.out _ _ hR3
            clear hR3 h2 h3 hst HR1 HR
            have CL := Lib.hid CL
            go_wp2_with fail
            go_at_call 9
            refine CL.out.mono ?_
            rintro e w' ⟨rfl, rfl⟩
            clear CL
            go_wp2
            all_goals
              go_roundg (n - (i + 1))
              case measure => omega
              case rel => exact ⟨i + 1, s2, none, B [], by go_num, rfl, rfl, by omega, by omega, HN2, Lib.hid (fun c e => by cases e)⟩
          · go_wp2_with fail
            go_at_call 10
            refine C.out.mono ?_
            rintro e w3 ⟨rfl, hR3⟩
            clear C
            have CU := up_run hR3
            rw [h2] at CU
            have CU := Lib.hid CU
            go_wp2_with fail
            go_at_call 15
            refine CU.out.mono ?_
            rintro e w' ⟨rfl, rfl⟩
            go_wp2_with fail
            go_at_call 15
            refine CU.out.mono ?_
            rintro e w' ⟨rfl, rfl⟩
            clear CU
            have CS := start_run (by have := HR1.out.2.2.1; omega) hR3
            rw [start_off h2] at CS
            have CS := Lib.hid CS
            go_wp2_with fail
            go_at_call 16
            refine CS.out.mono ?_
            rintro e w4 ⟨rfl, hR4⟩
            clear CS
            have hh4 : Held (⟨s2.cap, s2.files, false, s2.starts + 1, s2.due⟩ : St) (none) := h3
            generalize hs4 : (⟨s2.cap, s2.files, false, s2.starts + 1, s2.due⟩ : St) = s4 at *
            have ho4 : s4.off = false := by rw [← hs4]
            have hs5 : s4.starts = s2.starts + 1 := by rw [← hs4]
            have CL := load_run ⟨#[102, 105, 108, 101]⟩ (by decide) hR4
            rw [show (⟨#[102, 105, 108, 101]⟩ : ByteArray).data.toList = fn4 from rfl, (hh4).load ho4] at CL
            simp only [told] at CL
            have HN2 : Hid (Run wq.heap.size wq (wq.heap.size + 1) s4 w4 ∧ s4.off = false ∧ s4.starts ≤ i + 1 ∧ Held s4 (none)) := Lib.hid ⟨hR4, ho4, by have := HR1.out.2.2.1; omega, hh4⟩
            have k5 := HQ.out _ _ hR4
            clear hR3 hR4 h2 h3 hst HR1 HR hh4 hs4 ho4 hs5
            have CL := Lib.hid CL
            go_wp2_with fail
            go_at_call 9
            refine CL.out.mono ?_
            rintro e w' ⟨rfl, rfl⟩
            clear CL
            go_wp2
            all_goals
              go_roundg (n - (i + 1))
              case measure => omega
              case rel => exact ⟨i + 1, s4, none, B [], by go_num, rfl, rfl, by omega, by omega, HN2, Lib.hid (fun c e => by cases e)⟩
      · have HX0 : x = B c0 := HX.out c0 rfl
        subst HX0
        by_cases hia : i < na
        · obtain ⟨b2, o2, rfl, hb2, hb3, hb4⟩ := (HA.out.belowN HB.out) (by rw [bv_length, ← HNA.out]; omega)
          have hiu : i < us.length := by rw [← HNA.out]; exact hia
          have hc3 := hb4 i _ (show (bv us)[i]? = some (.int .u8 (us[i]'hiu).toNat) by simp [bv, List.getElem?_eq_getElem hiu])
          have hr := HR.out.1
          have k6 : wr.cell? ⟨b2, o2 + i, none⟩ = some (.int .u8 (us[i]'hiu).toNat) := (hr.below.cell (p := ⟨b2, o2 + i, none⟩) (show b2 < wq.heap.size by omega)).trans hc3
          have hu8 : (us[i]'hiu).toNat < 256 := (us[i]'hiu).toNat_lt
          clear hb4 hc3
          generalize (us[i]'hiu).toNat = u at *
          obtain ⟨m, hm, hm8⟩ : ∃ m, u % 8 = m ∧ m < 8 := ⟨_, rfl, by omega⟩
          have hz : (u : Int) % 8 = (m : Int) := by omega
          have C := fail_run Ak ck (m : Int) ks hnkc hck9 (by omega) (((HK.out.belowN HB.out).more (Nat.le_refl _) hzq).belowN hr.below) hr
          rw [fail_on HR.out.2.1] at C
          have C := Lib.hid C
          clear hm hr hiu
          go_wp2_with fail
          go_at_call 14
          refine C.out.mono ?_
          rintro e w2 ⟨rfl, hR2⟩
          have HR1 : Hid (Run wq.heap.size wq (wq.heap.size + 1) { s with due := some (m, ks.take 32) } w2 ∧ ({ s with due := some (m, ks.take 32) } : St).off = false ∧ ({ s with due := some (m, ks.take 32) } : St).starts ≤ i ∧ Held { s with due := some (m, ks.take 32) } (some c0)) := Lib.hid ⟨hR2, HR.out.2.1, HR.out.2.2.1, HR.out.2.2.2⟩
          clear C hR2 k6
          generalize ({ s with due := some (m, ks.take 32) } : St) = s1 at *
          have hR := HR1.out.1
          have C := write_run ⟨#[102, 105, 108, 101]⟩ z (by decide) HZZ.out hR
          rw [show (⟨#[102, 105, 108, 101]⟩ : ByteArray).data.toList = fn4 from rfl] at C
          have HW := held_write hR.ok HR1.out.2.1 HR1.out.2.2.2 z.data.toList
          have hst := write_starts s1 fn4 z.data.toList
          have k4 := HQ.out _ _ hR
          generalize sWrite s1 fn4 z.data.toList = r at C HW hst
          obtain ⟨g, s2⟩ := r
          simp only at C HW hst
          have C := Lib.hid C
          clear hR
          rcases HW with ⟨rfl, h2, h3⟩ | ⟨rfl, h2, h3⟩ | ⟨rfl, h2, h3⟩
          · go_wp2_with fail
            go_at_call 10
            refine C.out.mono ?_
            rintro e w3 ⟨rfl, hR3⟩
            clear C
            have CU := up_run hR3
            rw [h2] at CU
            have CU := Lib.hid CU
            go_wp2_with fail
            go_at_call 15
            refine CU.out.mono ?_
            rintro e w' ⟨rfl, rfl⟩
            go_wp2_with fail
            go_at_call 15
            refine CU.out.mono ?_
            rintro e w' ⟨rfl, rfl⟩
            clear CU
            have CL := load_run ⟨#[102, 105, 108, 101]⟩ (by decide) hR3
            rw [show (⟨#[102, 105, 108, 101]⟩ : ByteArray).data.toList = fn4 from rfl, (h3).load h2] at CL
            simp only [told] at CL
            simp only [B_list] at CL
            have HN2 : Hid (Run wq.heap.size wq (wq.heap.size + 1) s2 w3 ∧ s2.off = false ∧ s2.starts ≤ i + 1 ∧ Held s2 (some z.data.toList)) := Lib.hid ⟨hR3, h2, by have := HR1.out.2.2.1; omega, h3⟩
            have k5 := HQ.out _ _ hR3
            clear hR3 h2 h3 hst HR1 HR
            have CL := Lib.hid CL
            go_wp2_with fail
            go_at_call 9
            refine CL.out.mono ?_
            rintro e w' ⟨rfl, rfl⟩
            clear CL
            go_wp2
            all_goals
              go_roundg (n - (i + 1))
              case measure => omega
              case rel => exact ⟨i + 1, s2, some z.data.toList, z, by go_num, rfl, rfl, by omega, by omega, HN2, Lib.hid (fun c e => by injection e with e; rw [← e, B_list])⟩
          · go_wp2_with fail
            go_at_call 10
            refine C.out.mono ?_
            rintro e w3 ⟨rfl, hR3⟩
            clear C
            have CU := up_run hR3
            rw [h2] at CU
            have CU := Lib.hid CU
            go_wp2_with fail
            go_at_call 15
            refine CU.out.mono ?_
            rintro e w' ⟨rfl, rfl⟩
            go_wp2_with fail
            go_at_call 15
            refine CU.out.mono ?_
            rintro e w' ⟨rfl, rfl⟩
            clear CU
            have CL := load_run ⟨#[102, 105, 108, 101]⟩ (by decide) hR3
            rw [show (⟨#[102, 105, 108, 101]⟩ : ByteArray).data.toList = fn4 from rfl, (h3).load h2] at CL
            simp only [told] at CL
            have HN2 : Hid (Run wq.heap.size wq (wq.heap.size + 1) s2 w3 ∧ s2.off = false ∧ s2.starts ≤ i + 1 ∧ Held s2 (some c0)) := Lib.hid ⟨hR3, h2, by have := HR1.out.2.2.1; omega, h3⟩
            have k5 := HQ.out _ _ hR3
            clear hR3 h2 h3 hst HR1 HR
            have CL := Lib.hid CL
            go_wp2_with fail
            go_at_call 9
            refine CL.out.mono ?_
            rintro e w' ⟨rfl, rfl⟩
            clear CL
            go_wp2
            all_goals
              go_roundg (n - (i + 1))
              case measure => omega
              case rel => exact ⟨i + 1, s2, some c0, B c0, by go_num, rfl, rfl, by omega, by omega, HN2, Lib.hid (fun c e => by injection e with e; rw [e])⟩
          · go_wp2_with fail
            go_at_call 10
            refine C.out.mono ?_
            rintro e w3 ⟨rfl, hR3⟩
            clear C
            have CU := up_run hR3
            rw [h2] at CU
            have CU := Lib.hid CU
            go_wp2_with fail
            go_at_call 15
            refine CU.out.mono ?_
            rintro e w' ⟨rfl, rfl⟩
            go_wp2_with fail
            go_at_call 15
            refine CU.out.mono ?_
            rintro e w' ⟨rfl, rfl⟩
            clear CU
            have CS := start_run (by have := HR1.out.2.2.1; omega) hR3
            rw [start_off h2] at CS
            have CS := Lib.hid CS
            go_wp2_with fail
            go_at_call 16
            refine CS.out.mono ?_
            rintro e w4 ⟨rfl, hR4⟩
            clear CS
            have hh4 : Held (⟨s2.cap, s2.files, false, s2.starts + 1, s2.due⟩ : St) (some c0) := h3
            generalize hs4 : (⟨s2.cap, s2.files, false, s2.starts + 1, s2.due⟩ : St) = s4 at *
            have ho4 : s4.off = false := by rw [← hs4]
            have hs5 : s4.starts = s2.starts + 1 := by rw [← hs4]
            have CL := load_run ⟨#[102, 105, 108, 101]⟩ (by decide) hR4
            rw [show (⟨#[102, 105, 108, 101]⟩ : ByteArray).data.toList = fn4 from rfl, (hh4).load ho4] at CL
            simp only [told] at CL
            have HN2 : Hid (Run wq.heap.size wq (wq.heap.size + 1) s4 w4 ∧ s4.off = false ∧ s4.starts ≤ i + 1 ∧ Held s4 (some c0)) := Lib.hid ⟨hR4, ho4, by have := HR1.out.2.2.1; omega, hh4⟩
            have k5 := HQ.out _ _ hR4
            clear hR3 hR4 h2 h3 hst HR1 HR hh4 hs4 ho4 hs5
            have CL := Lib.hid CL
            go_wp2_with fail
            go_at_call 9
            refine CL.out.mono ?_
            rintro e w' ⟨rfl, rfl⟩
            clear CL
            go_wp2
            all_goals
              go_roundg (n - (i + 1))
              case measure => omega
              case rel => exact ⟨i + 1, s4, some c0, B c0, by go_num, rfl, rfl, by omega, by omega, HN2, Lib.hid (fun c e => by injection e with e; rw [e])⟩
        · have HR1 := HR
          generalize hs1 : s = s1 at HR1
          generalize hw2 : wr = w2 at HR1
          subst hs1 hw2
          have HR1 := HR
          have hR := HR1.out.1
          have C := write_run ⟨#[102, 105, 108, 101]⟩ z (by decide) HZZ.out hR
          rw [show (⟨#[102, 105, 108, 101]⟩ : ByteArray).data.toList = fn4 from rfl] at C
          have HW := held_write hR.ok HR1.out.2.1 HR1.out.2.2.2 z.data.toList
          have hst := write_starts s fn4 z.data.toList
          have k4 := HQ.out _ _ hR
          generalize sWrite s fn4 z.data.toList = r at C HW hst
          obtain ⟨g, s2⟩ := r
          simp only at C HW hst
          have C := Lib.hid C
          clear hR
          rcases HW with ⟨rfl, h2, h3⟩ | ⟨rfl, h2, h3⟩ | ⟨rfl, h2, h3⟩
          · go_wp2_with fail
            go_at_call 10
            refine C.out.mono ?_
            rintro e w3 ⟨rfl, hR3⟩
            clear C
            have CU := up_run hR3
            rw [h2] at CU
            have CU := Lib.hid CU
            go_wp2_with fail
            go_at_call 15
            refine CU.out.mono ?_
            rintro e w' ⟨rfl, rfl⟩
            go_wp2_with fail
            go_at_call 15
            refine CU.out.mono ?_
            rintro e w' ⟨rfl, rfl⟩
            clear CU
            have CL := load_run ⟨#[102, 105, 108, 101]⟩ (by decide) hR3
            rw [show (⟨#[102, 105, 108, 101]⟩ : ByteArray).data.toList = fn4 from rfl, (h3).load h2] at CL
            simp only [told] at CL
            simp only [B_list] at CL
            have HN2 : Hid (Run wq.heap.size wq (wq.heap.size + 1) s2 w3 ∧ s2.off = false ∧ s2.starts ≤ i + 1 ∧ Held s2 (some z.data.toList)) := Lib.hid ⟨hR3, h2, by have := HR1.out.2.2.1; omega, h3⟩
            have k5 := HQ.out _ _ hR3
            clear hR3 h2 h3 hst HR1 HR
            have CL := Lib.hid CL
            go_wp2_with fail
            go_at_call 9
            refine CL.out.mono ?_
            rintro e w' ⟨rfl, rfl⟩
            clear CL
            go_wp2
            all_goals
              go_roundg (n - (i + 1))
              case measure => omega
              case rel => exact ⟨i + 1, s2, some z.data.toList, z, by go_num, rfl, rfl, by omega, by omega, HN2, Lib.hid (fun c e => by injection e with e; rw [← e, B_list])⟩
          · go_wp2_with fail
            go_at_call 10
            refine C.out.mono ?_
            rintro e w3 ⟨rfl, hR3⟩
            clear C
            have CU := up_run hR3
            rw [h2] at CU
            have CU := Lib.hid CU
            go_wp2_with fail
            go_at_call 15
            refine CU.out.mono ?_
            rintro e w' ⟨rfl, rfl⟩
            go_wp2_with fail
            go_at_call 15
            refine CU.out.mono ?_
            rintro e w' ⟨rfl, rfl⟩
            clear CU
            have CL := load_run ⟨#[102, 105, 108, 101]⟩ (by decide) hR3
            rw [show (⟨#[102, 105, 108, 101]⟩ : ByteArray).data.toList = fn4 from rfl, (h3).load h2] at CL
            simp only [told] at CL
            have HN2 : Hid (Run wq.heap.size wq (wq.heap.size + 1) s2 w3 ∧ s2.off = false ∧ s2.starts ≤ i + 1 ∧ Held s2 (some c0)) := Lib.hid ⟨hR3, h2, by have := HR1.out.2.2.1; omega, h3⟩
            have k5 := HQ.out _ _ hR3
            clear hR3 h2 h3 hst HR1 HR
            have CL := Lib.hid CL
            go_wp2_with fail
            go_at_call 9
            refine CL.out.mono ?_
            rintro e w' ⟨rfl, rfl⟩
            clear CL
            go_wp2
            all_goals
              go_roundg (n - (i + 1))
              case measure => omega
              case rel => exact ⟨i + 1, s2, some c0, B c0, by go_num, rfl, rfl, by omega, by omega, HN2, Lib.hid (fun c e => by injection e with e; rw [e])⟩
          · go_wp2_with fail
            go_at_call 10
            refine C.out.mono ?_
            rintro e w3 ⟨rfl, hR3⟩
            clear C
            have CU := up_run hR3
            rw [h2] at CU
            have CU := Lib.hid CU
            go_wp2_with fail
            go_at_call 15
            refine CU.out.mono ?_
            rintro e w' ⟨rfl, rfl⟩
            go_wp2_with fail
            go_at_call 15
            refine CU.out.mono ?_
            rintro e w' ⟨rfl, rfl⟩
            clear CU
            have CS := start_run (by have := HR1.out.2.2.1; omega) hR3
            rw [start_off h2] at CS
            have CS := Lib.hid CS
            go_wp2_with fail
            go_at_call 16
            refine CS.out.mono ?_
            rintro e w4 ⟨rfl, hR4⟩
            clear CS
            have hh4 : Held (⟨s2.cap, s2.files, false, s2.starts + 1, s2.due⟩ : St) (some c0) := h3
            generalize hs4 : (⟨s2.cap, s2.files, false, s2.starts + 1, s2.due⟩ : St) = s4 at *
            have ho4 : s4.off = false := by rw [← hs4]
            have hs5 : s4.starts = s2.starts + 1 := by rw [← hs4]
            have CL := load_run ⟨#[102, 105, 108, 101]⟩ (by decide) hR4
            rw [show (⟨#[102, 105, 108, 101]⟩ : ByteArray).data.toList = fn4 from rfl, (hh4).load ho4] at CL
            simp only [told] at CL
            have HN2 : Hid (Run wq.heap.size wq (wq.heap.size + 1) s4 w4 ∧ s4.off = false ∧ s4.starts ≤ i + 1 ∧ Held s4 (some c0)) := Lib.hid ⟨hR4, ho4, by have := HR1.out.2.2.1; omega, hh4⟩
            have k5 := HQ.out _ _ hR4
            clear hR3 hR4 h2 h3 hst HR1 HR hh4 hs4 ho4 hs5
            have CL := Lib.hid CL
            go_wp2_with fail
            go_at_call 9
            refine CL.out.mono ?_
            rintro e w' ⟨rfl, rfl⟩
            clear CL
            go_wp2
            all_goals
              go_roundg (n - (i + 1))
              case measure => omega
              case rel => exact ⟨i + 1, s4, some c0, B c0, by go_num, rfl, rfl, by omega, by omega, HN2, Lib.hid (fun c e => by injection e with e; rw [e])⟩
    · obtain rfl : i = n := by omega
      have hR := HR.out.1
      have HY := Lib.hid (HB.out.trans (hR.below.mono hzq))
      clear hR HR
      go_wp2_with fail
      go_at_call 12
      refine (hdoes.out _).mono ?_
      rintro e w9 ⟨rfl, hB9⟩
      have HE := HY.out.trans (hB9.mono HY.out.size)
      go_wp2
      go_ret
      exact ⟨rfl, HE⟩
end Go.Proofs.Ytlbhegicapggeaa.sav
