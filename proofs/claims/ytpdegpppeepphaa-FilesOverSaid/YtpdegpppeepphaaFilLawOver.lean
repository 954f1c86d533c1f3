/- FilesOver, walked. -/
import Derived.Test.YtpdegpppeepphaaFilGo
import Derived.BigQuiet
namespace Go.Proofs.Ytpdegpppeepphaa.fil
open Go.RowKit Go.Lib Go.Maps Go.WideMaps
set_option linter.unusedVariables false
set_option linter.unusedSimpArgs false
set_option linter.unnecessarySimpa false
set_option linter.unusedSectionVars false

def f0 : List UInt8 := [102]
def g0 : List UInt8 := [103]
def onF (o : List UInt8) : List Fl := [⟨f0, o, o.length⟩]
def withG (o x : List UInt8) (p : Nat) : List Fl := [⟨f0, o, o.length⟩, ⟨g0, x, p⟩]
theorem over_append (o : List UInt8) (h : o.length ≤ 2000) : sAppend (sNew 8001) f0 o = (0, ⟨8001, [⟨f0, o, 0⟩], false, 0, none⟩) := by
  have he : errAppend (sNew 8001) f0 o.length = 0 := by
    unfold errAppend
    rw [if_neg (by decide), if_neg (by simp [sNew, find, total]; omega)]
  unfold sAppend stroke
  rw [he]
  rfl
theorem over_sync (o : List UInt8) : sSync ⟨8001, [⟨f0, o, 0⟩], false, 0, none⟩ f0 = (0, ⟨8001, onF o, false, 0, none⟩) := by
  unfold sSync stroke
  rfl
def dA (s : ByteArray) : Dt := ⟨0, B [102], B [], s, 0, none, 0, []⟩
def dS : Dt := ⟨3, B [102], B [], B [], 0, none, 0, []⟩
theorem over_after (s : ByteArray) (h : s.size ≤ 2000) : after (1 + 8000) [dA s, dS] = ⟨8001, onF s.data.toList, false, 0, none⟩ := by
  have h1 : step (sNew 8001) (dA s) = sAppend (sNew 8001) f0 s.data.toList := by
    unfold step dA; simp [list_B, f0]
  have h2 : act1 (sNew 8001) (dA s) = ⟨8001, [⟨f0, s.data.toList, 0⟩], false, 0, none⟩ := by
    unfold act1
    rw [if_neg (show ¬ (dA s).what % 12 = 11 by simp [dA]), h1, over_append _ (by simpa using h)]
  have h3 : act1 ⟨8001, [⟨f0, s.data.toList, 0⟩], false, 0, none⟩ dS = ⟨8001, onF s.data.toList, false, 0, none⟩ := by
    have : step ⟨8001, [⟨f0, s.data.toList, 0⟩], false, 0, none⟩ dS = sSync ⟨8001, [⟨f0, s.data.toList, 0⟩], false, 0, none⟩ f0 := by
      unfold step dS; simp [list_B, f0]
    unfold act1
    rw [if_neg (by decide), this, over_sync]
  have h4 : acted (1 + 8000) [dA s, dS] = ⟨8001, onF s.data.toList, false, 0, none⟩ := by
    show act1 (act1 (sNew 8001) (dA s)) dS = _
    rw [h2, h3]
  unfold after
  rw [h4]
  rfl
theorem over_fail (o : List UInt8) (k : Nat) (ks : List Int) : sFail ⟨8001, onF o, false, 0, none⟩ (k : Int) ks = (0, ⟨8001, onF o, false, 0, some (k, ks.take 32)⟩) := by
  unfold sFail
  rw [if_neg (show ¬ false = true by decide), if_neg (by omega), Int.toNat_natCast]
theorem over_err (o x : List UInt8) (d : Option (Nat × List Int)) (h : o.length ≤ 2000) (hx : x.length ≤ 2000) : errAppend ⟨8001, onF o, false, 0, d⟩ g0 x.length = 0 := by
  unfold errAppend
  rw [if_neg (by decide), if_neg (by simp [onF, find, total, g0, f0]; omega)]
theorem over_doA (o x : List UInt8) (d : Option (Nat × List Int)) : doAppend ⟨8001, onF o, false, 0, d⟩ g0 x = withG o x 0 := rfl
theorem over_app0 (o x : List UInt8) (ks : List Int) (h : o.length ≤ 2000) (hx : x.length ≤ 2000) : sAppend ⟨8001, onF o, false, 0, some (0, ks)⟩ g0 x = (51, ⟨8001, lose ks (withG o x 0), true, 0, none⟩) := by
  unfold sAppend stroke
  rw [over_err o x _ h hx]
  rfl
theorem over_app (o x : List UInt8) (k : Nat) (ks : List Int) (h : o.length ≤ 2000) (hx : x.length ≤ 2000) : sAppend ⟨8001, onF o, false, 0, some (k + 1, ks)⟩ g0 x = (0, ⟨8001, withG o x 0, false, 0, some (k, ks)⟩) := by
  unfold sAppend stroke
  rw [over_err o x _ h hx]
  rfl
theorem over_sync0 (o x : List UInt8) (ks : List Int) : sSync ⟨8001, withG o x 0, false, 0, some (0, ks)⟩ g0 = (51, ⟨8001, lose ks (withG o x 0), true, 0, none⟩) := rfl
theorem over_syn (o x : List UInt8) (k : Nat) (ks : List Int) : sSync ⟨8001, withG o x 0, false, 0, some (k + 1, ks)⟩ g0 = (0, ⟨8001, withG o x x.length, false, 0, some (k, ks)⟩) := rfl
theorem over_ren0 (o x : List UInt8) (ks : List Int) : sRename ⟨8001, withG o x x.length, false, 0, some (0, ks)⟩ g0 f0 = (51, ⟨8001, lose ks (withG o x x.length), true, 0, none⟩) := rfl
theorem over_ren (o x : List UInt8) (k : Nat) (ks : List Int) : sRename ⟨8001, withG o x x.length, false, 0, some (k + 1, ks)⟩ g0 f0 = (0, ⟨8001, onF x, false, 0, some (k, ks)⟩) := rfl
theorem over_start (l : List Fl) : sStart ⟨8001, l, true, 0, none⟩ = (0, ⟨8001, l, false, 1, none⟩) := rfl
theorem over_lost (o x : List UInt8) (p : Nat) (ks : List Int) : reads ⟨8001, lose ks (withG o x p), false, 1, none⟩ f0 = (o, 0) := by
  have e : keepN (ks.headD 0) ⟨f0, o, o.length⟩ = o.length := by show o.length + min _ (o.length - o.length) = _; omega
  have : find (lose ks (withG o x p)) f0 = some ⟨f0, o, o.length⟩ := by
    unfold withG lose cut1
    rw [e]
    show some (⟨f0, o.take o.length, o.length⟩ : Fl) = _
    rw [List.take_length]
  unfold reads
  rw [if_neg (show ¬ false = true by decide), this]
theorem over_won (x : List UInt8) (d : Option (Nat × List Int)) : reads ⟨8001, onF x, false, 0, d⟩ f0 = (x, 0) := rfl

/-- What the law's statements behind the Fail tell: all three strokes are done, or one of them dies. -/
def overSays (o x : List UInt8) (r : List UInt8) (did : Bool) : Prop := (did = true ∧ r = x) ∨ (did = false ∧ r = o)
theorem dA_ok (s : ByteArray) (h : s.size ≤ 2000) : (dA s).Ok := ⟨by simp [dA], by simp [dA, B_size, maxLen], by simp [dA, B_size, maxLen], by simp [dA, maxLen]; omega, by simp [dA], by simp [dA], by simp [dA], by simp [dA, maxLen]⟩
theorem dS_ok : dS.Ok := ⟨by simp [dS], by simp [dS, B_size, maxLen], by simp [dS, B_size, maxLen], by simp [dS, B_size, maxLen], by simp [dS], by simp [dS], by simp [dS], by simp [dS, maxLen]⟩
/-- The two things, as they are laid. -/
theorem over_dos (s : ByteArray) (w : World) (h : s.size ≤ 2000) :
    Dos (w.alloc (.cells #[.int .u8 0, .string ⟨#[102]⟩, .string ⟨#[]⟩, .string s, .int .i64 0, .slice none 0 0, .int .u8 3, .string ⟨#[102]⟩, .string ⟨#[]⟩, .string ⟨#[]⟩, .int .i64 0, .slice none 0 0] 33)) (w.heap.size + 1) (some ⟨w.heap.size, 0, none⟩) [dA s, dS] :=
  Dos.new w [dA s, dS] 33 (by simp [dA_ok s h, dS_ok]) (by simp [dA, dS])

set_option maxHeartbeats 4000000 in
set_option maxRecDepth 100000 in
theorem law8 (s0 s1 : ByteArray) (n : Nat) (A : Option Addr) (c m : Nat) (ks : List Int) (w : World) (h0 : s0.size ≤ maxLen) (h1 : s1.size ≤ maxLen) (hn : n < 256) (hm : m = ks.length) (hmc : m ≤ c) (hc : c ≤ maxLen) (hk : LRd w 0 w.heap.size A (iv ks))
    (hdoes : Hid (∀ W, Calls Try.prog 16 #[] W fun e w' => e = .returned (.bool true) ∧ Below W.heap.size W w')) :
    Calls Try.prog 8 #[.agg #[.string s0, .string s1], .int .u8 n, .slice A m c] w fun e w' => e = .returned (.bool true) ∧ Below w.heap.size w w' := by
  unfold maxLen at h0 h1
  have hc' : c ≤ 9223372036854775807 := by unfold maxLen at hc; omega
  by_cases z1 : 2000 < s0.size
  · clear hdoes hk
    go_enter Try.func8, Try.ntmps8
    go_wp2
    go_quiet (fail)
    go_wp2
    go_ret
    exact ⟨rfl, below_drewN ((Below.refl _ w).alloc (Nat.le_refl _) _) _⟩
  by_cases z2 : 2000 < s1.size
  · clear hdoes hk
    go_enter Try.func8, Try.ntmps8
    go_wp2
    go_quiet (fail)
    go_wp2
    go_ret
    exact ⟨rfl, below_drewN ((Below.refl _ w).alloc (Nat.le_refl _) _) _⟩
  by_cases z3 : 60 < m
  · clear hdoes hk
    go_enter Try.func8, Try.ntmps8
    go_wp2
    go_quiet (fail)
    go_wp2
    go_ret
    exact ⟨rfl, below_drewN ((Below.refl _ w).alloc (Nat.le_refl _) _) _⟩
  subst hm
  obtain ⟨k, hk6, hk7⟩ : ∃ k, n % 6 = k ∧ k < 6 := ⟨_, rfl, by omega⟩
  have hz : (n : Int) % 6 = (k : Int) := by omega
  clear hk6
  have E0 : Hid (s0.data.toList.length ≤ 2000) := Lib.hid (by have e : s0.data.toList.length = s0.size := (by simp); omega)
  have E1 : Hid (s1.data.toList.length ≤ 2000) := Lib.hid (by have e : s1.data.toList.length = s1.size := (by simp); omega)
  have HK := Lib.hid hk
  clear hk
  go_enter Try.func8, Try.ntmps8
  go_wp2
  go_quiet (fail)
  have HB0 : Below w.heap.size w ((w.alloc (.cells #[.string s0, .string s1] 63)).drewN nq) := below_drewN ((Below.refl _ w).alloc (Nat.le_refl _) _) _
  generalize (w.alloc (.cells #[.string s0, .string s1] 63)).drewN nq = wq at *
  have hzq := HB0.size
  go_wp2_with fail
  go_at_call 25
  refine (after_is _ _ 2 (wq.heap.size + 1) 8000 [dA s0, dS] _ rfl (by omega) (by omega) (by simp) (over_dos s0 wq (by omega))).mono ?_
  rintro e w2 ⟨rfl, hR⟩
  rw [over_after s0 (by omega)] at hR
  have HB1 : Below w.heap.size w (wq.alloc (.cells #[.int .u8 0, .string ⟨#[102]⟩, .string ⟨#[]⟩, .string s0, .int .i64 0, .slice none 0 0, .int .u8 3, .string ⟨#[102]⟩, .string ⟨#[]⟩, .string ⟨#[]⟩, .int .i64 0, .slice none 0 0] 33)) := HB0.alloc hzq _
  generalize wq.alloc (.cells #[.int .u8 0, .string ⟨#[102]⟩, .string ⟨#[]⟩, .string s0, .int .i64 0, .slice none 0 0, .int .u8 3, .string ⟨#[102]⟩, .string ⟨#[]⟩, .string ⟨#[]⟩, .int .i64 0, .slice none 0 0] 33) = w1 at *
  have hz1 := HB1.size
  have HE : Hid (∀ W s, Run w1.heap.size w1 (w1.heap.size + 1) s W → Below w.heap.size w W) := Lib.hid fun W s h => HB1.trans (h.below.mono hz1)
  have CF := fail_run A c (k : Int) ks hmc hc' (by omega) ((HK.out.belowN (HE.out _ _ hR)).more (Nat.le_refl _) hz1) hR
  rw [over_fail] at CF
  have CF := Lib.hid CF
  clear hR HB1 HB0 HK hzq
  go_wp2_with fail
  go_at_call 29
  refine CF.out.mono ?_
  rintro e w3 ⟨rfl, hR3⟩
  clear CF
  have m0 : (⟨#[103]⟩ : ByteArray).size ≤ maxLen := by decide
  have m1 : s1.size ≤ maxLen := by unfold maxLen; omega
  have m2 : (⟨#[102]⟩ : ByteArray).size ≤ maxLen := by decide
  match k, hk7, hz, hR3 with
  | 0, _, hz, hR3 =>
    have CA := append_run ⟨#[103]⟩ s1 m0 m1 hR3
    rw [show (⟨#[103]⟩ : ByteArray).data.toList = g0 from rfl, over_app0 s0.data.toList s1.data.toList _ E0.out E1.out] at CA
    have CA := Lib.hid CA
    go_wp2_with fail
    go_at_call 23
    refine CA.out.mono ?_
    rintro e w4 ⟨rfl, hR4⟩
    clear CA
    have CU := Lib.hid (up_run hR4)
    go_wp2_with fail
    go_at_call 21
    refine CU.out.mono ?_
    rintro e w' ⟨rfl, rfl⟩
    clear CU
    have CT := start_run (Nat.zero_le _) hR4
    rw [over_start] at CT
    have CT := Lib.hid CT
    go_wp2_with fail
    go_at_call 28
    refine CT.out.mono ?_
    rintro e w5 ⟨rfl, hR5⟩
    clear CT
    have CD := read_run ⟨#[102]⟩ m2 hR5
    rw [show (⟨#[102]⟩ : ByteArray).data.toList = f0 from rfl, over_lost s0.data.toList s1.data.toList, B_list] at CD
    have CD := Lib.hid CD
    go_wp2_with fail
    go_at_call 17
    refine CD.out.mono ?_
    rintro e w' ⟨rfl, rfl⟩
    clear CD
    have HZ := HE.out _ _ hR5
    go_wp2_with fail
    go_at_call 16
    refine (hdoes.out _).mono ?_
    rintro e w9 ⟨rfl, hB9⟩
    go_wp2
    go_ret
    exact ⟨rfl, HZ.trans (hB9.mono HZ.size)⟩
  | 1, _, hz, hR3 =>
    have CA := append_run ⟨#[103]⟩ s1 m0 m1 hR3
    rw [show (⟨#[103]⟩ : ByteArray).data.toList = g0 from rfl, over_app s0.data.toList s1.data.toList 0 _ E0.out E1.out] at CA
    have CA := Lib.hid CA
    go_wp2_with fail
    go_at_call 23
    refine CA.out.mono ?_
    rintro e w4 ⟨rfl, hR4⟩
    clear CA
    have CS := sync_run ⟨#[103]⟩ m0 hR4
    rw [show (⟨#[103]⟩ : ByteArray).data.toList = g0 from rfl, over_sync0 s0.data.toList s1.data.toList] at CS
    have CS := Lib.hid CS
    go_wp2_with fail
    go_at_call 30
    refine CS.out.mono ?_
    rintro e w5 ⟨rfl, hR5⟩
    clear CS
    have CU := Lib.hid (up_run hR5)
    go_wp2_with fail
    go_at_call 21
    refine CU.out.mono ?_
    rintro e w' ⟨rfl, rfl⟩
    clear CU
    have CT := start_run (Nat.zero_le _) hR5
    rw [over_start] at CT
    have CT := Lib.hid CT
    go_wp2_with fail
    go_at_call 28
    refine CT.out.mono ?_
    rintro e w6 ⟨rfl, hR6⟩
    clear CT
    have CD := read_run ⟨#[102]⟩ m2 hR6
    rw [show (⟨#[102]⟩ : ByteArray).data.toList = f0 from rfl, over_lost s0.data.toList s1.data.toList, B_list] at CD
    have CD := Lib.hid CD
    go_wp2_with fail
    go_at_call 17
    refine CD.out.mono ?_
    rintro e w' ⟨rfl, rfl⟩
    clear CD
    have HZ := HE.out _ _ hR6
    go_wp2_with fail
    go_at_call 16
    refine (hdoes.out _).mono ?_
    rintro e w9 ⟨rfl, hB9⟩
    go_wp2
    go_ret
    exact ⟨rfl, HZ.trans (hB9.mono HZ.size)⟩
  | 2, _, hz, hR3 =>
    have CA := append_run ⟨#[103]⟩ s1 m0 m1 hR3
    rw [show (⟨#[103]⟩ : ByteArray).data.toList = g0 from rfl, over_app s0.data.toList s1.data.toList 1 _ E0.out E1.out] at CA
    have CA := Lib.hid CA
    go_wp2_with fail
    go_at_call 23
    refine CA.out.mono ?_
    rintro e w4 ⟨rfl, hR4⟩
    clear CA
    have CS := sync_run ⟨#[103]⟩ m0 hR4
    rw [show (⟨#[103]⟩ : ByteArray).data.toList = g0 from rfl, over_syn s0.data.toList s1.data.toList 0] at CS
    have CS := Lib.hid CS
    go_wp2_with fail
    go_at_call 30
    refine CS.out.mono ?_
    rintro e w5 ⟨rfl, hR5⟩
    clear CS
    have CR := rename_run ⟨#[103]⟩ ⟨#[102]⟩ m0 m2 hR5
    rw [show (⟨#[103]⟩ : ByteArray).data.toList = g0 from rfl, show (⟨#[102]⟩ : ByteArray).data.toList = f0 from rfl, over_ren0 s0.data.toList s1.data.toList] at CR
    have CR := Lib.hid CR
    go_wp2_with fail
    go_at_call 31
    refine CR.out.mono ?_
    rintro e w6 ⟨rfl, hR6⟩
    clear CR
    have CU := Lib.hid (up_run hR6)
    go_wp2_with fail
    go_at_call 21
    refine CU.out.mono ?_
    rintro e w' ⟨rfl, rfl⟩
    clear CU
    have CT := start_run (Nat.zero_le _) hR6
    rw [over_start] at CT
    have CT := Lib.hid CT
    go_wp2_with fail
    go_at_call 28
    refine CT.out.mono ?_
    rintro e w7 ⟨rfl, hR7⟩
    clear CT
    have CD := read_run ⟨#[102]⟩ m2 hR7
    rw [show (⟨#[102]⟩ : ByteArray).data.toList = f0 from rfl, over_lost s0.data.toList s1.data.toList, B_list] at CD
    have CD := Lib.hid CD
    go_wp2_with fail
    go_at_call 17
    refine CD.out.mono ?_
    rintro e w' ⟨rfl, rfl⟩
    clear CD
    have HZ := HE.out _ _ hR7
    go_wp2_with fail
    go_at_call 16
    refine (hdoes.out _).mono ?_
    rintro e w9 ⟨rfl, hB9⟩
    go_wp2
    go_ret
    exact ⟨rfl, HZ.trans (hB9.mono HZ.size)⟩
  | j + 3, _, hz, hR3 =>
    have CA := append_run ⟨#[103]⟩ s1 m0 m1 hR3
    rw [show (⟨#[103]⟩ : ByteArray).data.toList = g0 from rfl, over_app s0.data.toList s1.data.toList (j + 2) _ E0.out E1.out] at CA
    have CA := Lib.hid CA
    go_wp2_with fail
    go_at_call 23
    refine CA.out.mono ?_
    rintro e w4 ⟨rfl, hR4⟩
    clear CA
    have CS := sync_run ⟨#[103]⟩ m0 hR4
    rw [show (⟨#[103]⟩ : ByteArray).data.toList = g0 from rfl, over_syn s0.data.toList s1.data.toList (j + 1)] at CS
    have CS := Lib.hid CS
    go_wp2_with fail
    go_at_call 30
    refine CS.out.mono ?_
    rintro e w5 ⟨rfl, hR5⟩
    clear CS
    have CR := rename_run ⟨#[103]⟩ ⟨#[102]⟩ m0 m2 hR5
    rw [show (⟨#[103]⟩ : ByteArray).data.toList = g0 from rfl, show (⟨#[102]⟩ : ByteArray).data.toList = f0 from rfl, over_ren s0.data.toList s1.data.toList j] at CR
    have CR := Lib.hid CR
    go_wp2_with fail
    go_at_call 31
    refine CR.out.mono ?_
    rintro e w6 ⟨rfl, hR6⟩
    clear CR
    have CU := Lib.hid (up_run hR6)
    go_wp2_with fail
    go_at_call 21
    refine CU.out.mono ?_
    rintro e w' ⟨rfl, rfl⟩
    clear CU
    have hgt : decide ((2 : Int) < ((j + 3 : Nat) : Int)) = true := by simp; omega
    have CD := read_run ⟨#[102]⟩ m2 hR6
    rw [show (⟨#[102]⟩ : ByteArray).data.toList = f0 from rfl, over_won s1.data.toList, B_list] at CD
    have CD := Lib.hid CD
    go_wp2_with fail
    go_at_call 17
    refine CD.out.mono ?_
    rintro e w' ⟨rfl, rfl⟩
    clear CD
    have HZ := HE.out _ _ hR6
    go_wp2_with fail
    go_at_call 16
    refine (hdoes.out _).mono ?_
    rintro e w9 ⟨rfl, hB9⟩
    go_wp2
    go_ret
    exact ⟨rfl, HZ.trans (hB9.mono HZ.size)⟩
end Go.Proofs.Ytpdegpppeepphaa.fil
