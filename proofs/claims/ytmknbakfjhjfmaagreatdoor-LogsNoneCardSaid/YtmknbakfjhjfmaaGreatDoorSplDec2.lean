/- Splices: Decode, of the program. -/
import Derived.Test.YtmknbakfjhjfmaaGreatDoorSplEnc
import Derived.Test.YtmknbakfjhjfmaaGreatDoorSplAll
import Derived.Test.YtmknbakfjhjfmaaGreatDoorNumGetList
/-! Splices: get and Decode, of the program; a splice's bytes as plain lists. -/
namespace Go.Proofs.YtmknbakfjhjfmaaGreatDoor.sps
open Go.RowKit Go.Lib pce
open num (getN getL putN putL MX atN retN atL ListSays strs')
set_option linter.unusedVariables false
set_option linter.unusedSimpArgs false
set_option linter.unnecessarySimpa false
set_option linter.unusedSectionVars false

/-- What a text begins with: two numbers and a list. -/
def getS (l : List UInt8) : Option (Nat × Nat × List (List UInt8)) :=
  match getN l with
  | none => none
  | some a => match getN (l.drop (putN a).length) with
    | none => none
    | some d => match getL (l.drop ((putN a).length + (putN d).length)) with
      | none => none
      | some ts => some (a, d, ts)
/-- The splice whose bytes a text is. -/
def dec (l : List UInt8) : Option (Nat × Nat × List (List UInt8)) :=
  match getS l with
  | none => none
  | some (a, d, ts) => if l.length = (enc a d ts).length ∧ chk (ts.map B) = 0 then some (a, d, ts) else none
theorem enc_len (a d : Nat) (ts : List (List UInt8)) : (enc a d ts).length = (putN a).length + (putN d).length + (putL ts).length := by
  unfold enc; rw [List.length_append, List.length_append]; omega
theorem getS_pre {l : List UInt8} {a d : Nat} {ts : List (List UInt8)} (h : getS l = some (a, d, ts)) : a ≤ MX ∧ d ≤ MX ∧ enc a d ts <+: l := by
  unfold getS at h
  cases h1 : getN l with
  | none => rw [h1] at h; cases h
  | some a' =>
    rw [h1] at h
    simp only at h
    cases h2 : getN (l.drop (putN a').length) with
    | none => rw [h2] at h; cases h
    | some d' =>
      rw [h2] at h
      simp only at h
      cases h3 : getL (l.drop ((putN a').length + (putN d').length)) with
      | none => rw [h3] at h; cases h
      | some ts' =>
        rw [h3] at h
        simp only [Option.some.injEq, Prod.mk.injEq] at h
        obtain ⟨rfl, rfl, rfl⟩ := h
        have e1 := num.getN_drop h1
        have e2 := num.getN_drop h2
        obtain ⟨r, e3⟩ := (num.getL_iff.1 h3).2.2
        rw [List.drop_drop] at e2
        refine ⟨(num.getN_iff.1 h1).1, (num.getN_iff.1 h2).1, r, ?_⟩
        unfold enc
        rw [List.append_assoc, List.append_assoc, e3, ← e2, ← e1]
theorem getS_put {a d : Nat} {ts : List (List UInt8)} (ha : a ≤ MX) (hd : d ≤ MX) (h1 : ts.length ≤ MX) (h2 : ∀ t ∈ ts, t.length ≤ MX) (r : List UInt8) : getS (enc a d ts ++ r) = some (a, d, ts) := by
  have e1 : enc a d ts ++ r = putN a ++ (putN d ++ (putL ts ++ r)) := by unfold enc; rw [List.append_assoc, List.append_assoc]
  have g1 : getN (enc a d ts ++ r) = some a := by rw [e1]; exact num.getN_put ha _
  have g2 : (enc a d ts ++ r).drop (putN a).length = putN d ++ (putL ts ++ r) := by rw [e1, List.drop_left]
  have g3 : (enc a d ts ++ r).drop ((putN a).length + (putN d).length) = putL ts ++ r := by rw [← List.drop_drop, g2, List.drop_left]
  unfold getS
  rw [g1]
  simp only
  rw [g2, num.getN_put hd]
  simp only
  rw [g3, num.getL_put h1 h2]
theorem size_B (t : List UInt8) : (B t).size = t.length := B_size t
theorem chk_few {ts : List (List UInt8)} (h : chk (ts.map B) = 0) : ts.length ≤ 2000 ∧ ∀ t ∈ ts, t.length ≤ 1000 := by
  have hf := fine_chk.1 h
  refine ⟨by have := hf.1; rwa [List.length_map] at this, fun t ht => ?_⟩
  have := hf.size (B t) (List.mem_map.2 ⟨t, ht, rfl⟩)
  rwa [B_size] at this
theorem dec_iff {l : List UInt8} {a d : Nat} {ts : List (List UInt8)} : dec l = some (a, d, ts) ↔ l = enc a d ts ∧ a ≤ MX ∧ d ≤ MX ∧ chk (ts.map B) = 0 := by
  constructor
  · intro h
    unfold dec at h
    cases h1 : getS l with
    | none => rw [h1] at h; cases h
    | some x =>
      obtain ⟨a', d', ts'⟩ := x
      rw [h1] at h
      simp only at h
      split at h
      · rename_i hc
        simp only [Option.some.injEq, Prod.mk.injEq] at h
        obtain ⟨rfl, rfl, rfl⟩ := h
        obtain ⟨g1, g2, g3⟩ := getS_pre h1
        exact ⟨(g3.eq_of_length hc.1.symm).symm, g1, g2, hc.2⟩
      · cases h
  · rintro ⟨rfl, h1, h2, h3⟩
    obtain ⟨f1, f2⟩ := chk_few h3
    have g := getS_put h1 h2 (ts := ts) (by unfold MX; omega) (fun t ht => by have := f2 t ht; unfold MX; omega) []
    rw [List.append_nil] at g
    unfold dec
    rw [g]
    simp only
    rw [if_pos (by simp [h3])]
theorem dec_enc {a d : Nat} {ins : List ByteArray} (ha : a ≤ MX) (hd : d ≤ MX) (h : chk ins = 0) : dec (enc a d (num.bytesOf ins)) = some (a, d, num.bytesOf ins) := by
  refine dec_iff.2 ⟨rfl, ha, hd, ?_⟩
  have e : (num.bytesOf ins).map B = ins := by
    unfold num.bytesOf
    rw [List.map_map]
    conv => rhs; rw [← List.map_id ins]
    exact List.map_congr_left fun s _ => B_list s
  rw [e]; exact h
/-- No splice's bytes are another one's with something behind them. -/
theorem dec_more {a d : Nat} {ts : List (List UInt8)} {r : List UInt8} (h : (dec (enc a d ts ++ r)).isSome = true) : r = [] := by
  cases e : dec (enc a d ts ++ r) with
  | none => rw [e] at h; cases h
  | some x =>
    obtain ⟨a', d', ts'⟩ := x
    have h1 := (dec_iff.1 e).1
    have h2 : enc a d ts ++ r = enc a' d' ts' ++ [] := by rw [List.append_nil]; exact h1
    exact (enc_inj h2).2.2.2
theorem dec_less {a d : Nat} {ts : List (List UInt8)} {k : Nat} (hk : k < (enc a d ts).length) : dec ((enc a d ts).take k) = none := by
  cases e : dec ((enc a d ts).take k) with
  | none => rfl
  | some x =>
    obtain ⟨a', d', ts'⟩ := x
    have h1 := (dec_iff.1 e).1
    have h2 : enc a' d' ts' ++ (enc a d ts).drop k = enc a d ts ++ [] := by rw [← h1, List.take_append_drop, List.append_nil]
    have h3 := (enc_inj h2).2.2.2
    have h4 := congrArg List.length h3
    rw [List.length_drop] at h4
    simp at h4
    omega

/-- What get tells: nothing; or the splice, and the place behind it. -/
def GetSays (l : List UInt8) (w : World) (e : Ending) (w' : World) : Prop := Below w.heap.size w w' ∧
  match getS l with
  | none => ∃ a d : Int, e = .returned (.tuple #[.agg #[.int .i64 a, .int .i64 d, .slice none 0 0], .int .i64 0, .bool false])
  | some (a, d, ts) => ∃ A c, e = .returned (.tuple #[.agg #[.int .i64 a, .int .i64 d, .slice A ts.length c], .int .i64 ((enc a d ts).length : Nat), .bool true]) ∧ w'.ownsRow w.heap.size 9 1 (.slice A ts.length c) ts.length (strs' ts)
theorem GetSays.no {l : List UInt8} {w w' : World} {a d : Int} (h : getS l = none) (hB : Below w.heap.size w w') : GetSays l w (.returned (.tuple #[.agg #[.int .i64 a, .int .i64 d, .slice none 0 0], .int .i64 0, .bool false])) w' := ⟨hB, by rw [h]; exact ⟨a, d, rfl⟩⟩
theorem atN_zero (l : List UInt8) : atN l 0 = getN l := by have := num.atN_at (l := l) (a := 0) (Nat.zero_le _); simpa using this

set_option maxHeartbeats 8000000 in
set_option maxRecDepth 100000 in
theorem get_is (s : ByteArray) (w : World) (hs : s.size ≤ 100000) (hV : num.Vars w.heap.size w) :
    Calls Tryz.prog 103 #[.string s] w (GetSays s.data.toList w) := by
  obtain ⟨l, hl⟩ : ∃ l, s.data.toList = l := ⟨_, rfl⟩
  have hsl : l.length = s.size := by rw [← hl]; exact num.size_list s
  obtain ⟨wb, hwb⟩ : ∃ wb, w.alloc (.cells #[.int .i64 0, .int .i64 0, .slice none 0 0] 46) = wb := ⟨_, rfl⟩
  have hX0 : Below w.heap.size w wb ∧ At wb w.heap.size 46 #[.int .i64 0, .int .i64 0, .slice none 0 0] ∧ w.heap.size + 1 ≤ wb.heap.size := by
    subst hwb
    exact ⟨(Below.refl _ _).alloc (Nat.le_refl _) _, At.new _ _ _, by simp⟩
  have HX := Lib.hid (fun (W : World) (hB : Below wb.heap.size wb W) => And.intro (hX0.1.trans (hB.mono hX0.1.size)) (hX0.2.1.same (hB.block _ hX0.2.1.lt)))
  have HV := Lib.hid (fun (W : World) (hB : Below wb.heap.size wb W) => (hV.below (hX0.1.trans (hB.mono hX0.1.size))).more (hX0.1.trans (hB.mono hX0.1.size)).size)
  have hzb := hX0.2.2
  have C1 := Lib.hid (num.get20 s 0 wb (by omega) (HV.out wb (Below.refl _ _)))
  have HL := Lib.hid hl
  have HSL := Lib.hid hsl
  rw [hl, atN_zero] at C1
  rw [hl]
  clear hX0 hV hl hsl
  cases h1 : getN l with
  | none =>
    have HG : Hid (getS l = none) := Lib.hid (by unfold getS; rw [h1])
    rw [h1] at C1
    simp only [retN] at C1
    clear h1
    go_enter Tryz.func103, Tryz.ntmps103
    go_wp2_with fail
    go_at_call 125
    refine C1.out.mono ?_
    rintro e w1 ⟨rfl, hB1⟩
    have hX1 := Lib.hid (HX.out w1 hB1)
    clear hB1
    go_wp2_with (refine wpList_storeS rfl (.tmp 2) (.tmp 16) rfl w.heap.size 0 0 none 0 0 rfl rfl _ _ _ hX1.out.2 ?_; intro w2 hA2 hO2)
    obtain ⟨c0, c1, c2⟩ := three_at hA2
    refine bodyPost_ret (v := .tuple #[.agg #[.int .i64 0, .int .i64 0, .slice none 0 0], .int .i64 0, .bool false]) (by simp [results, Tryz.results103, go_sem, c0, c1, c2]) rfl (GetSays.no HG.out (hX1.out.1.trans (hO2.below (Nat.le_refl _))))
  | some a =>
    rw [h1] at C1
    have ha := (num.getN_iff.1 h1).1
    have hpl := (num.getN_iff.1 h1).2.length_le
    obtain ⟨p, hp⟩ : ∃ p, (putN a).length = p := ⟨_, rfl⟩
    simp only [retN, Int.zero_add, hp] at C1
    rw [hp] at hpl
    have hps : p ≤ s.size := by rw [← HSL.out]; exact hpl
    have C2 := Lib.hid (fun (W : World) (hB : Below wb.heap.size wb W) => num.get20 s (p : Int) W (by omega) (HV.out W hB))
    have e2 : atN s.data.toList (p : Int) = getN (l.drop p) := by rw [HL.out]; exact num.atN_at (by rw [HSL.out]; exact hps)
    rw [e2] at C2
    have hp' := Lib.hid hp
    have H1 := Lib.hid h1
    have ha' : a ≤ 9223372036854775807 := ha
    clear e2 h1 hp ha
    cases h2 : getN (l.drop p) with
    | none =>
      have HG : Hid (getS l = none) := Lib.hid (by unfold getS; rw [H1.out]; simp only; rw [hp'.out, h2])
      rw [h2] at C2
      simp only [retN] at C2
      clear h2
      go_enter Tryz.func103, Tryz.ntmps103
      go_wp2_with fail
      go_at_call 125
      refine C1.out.mono ?_
      rintro e w1 ⟨rfl, hB1⟩
      have HB1 := Lib.hid hB1
      clear hB1
      go_wp2_with fail
      go_at_call 125
      refine (C2.out w1 HB1.out).mono ?_
      rintro e w2 ⟨rfl, hB2⟩
      have hX2 := Lib.hid (HX.out w2 (HB1.out.trans (hB2.mono HB1.out.size)))
      clear hB2 HB1
      go_wp2_with (refine wpList_storeS rfl (.tmp 2) (.tmp 26) rfl w.heap.size 0 0 none 0 0 rfl rfl _ _ _ hX2.out.2 ?_; intro w3 hA3 hO3)
      obtain ⟨c0, c1, c2⟩ := three_at hA3
      refine bodyPost_ret (v := .tuple #[.agg #[.int .i64 0, .int .i64 0, .slice none 0 0], .int .i64 0, .bool false]) (by simp [results, Tryz.results103, go_sem, c0, c1, c2]) rfl (GetSays.no HG.out (hX2.out.1.trans (hO3.below (Nat.le_refl _))))
    | some d =>
      rw [h2] at C2
      have hd := (num.getN_iff.1 h2).1
      have hql := (num.getN_iff.1 h2).2.length_le
      obtain ⟨q, hq⟩ : ∃ q, (putN d).length = q := ⟨_, rfl⟩
      simp only [retN, hq] at C2
      rw [hq, List.length_drop] at hql
      have hqs : p + q ≤ s.size := by rw [← HSL.out]; have := HSL.out; omega
      have e3 : atL s.data.toList ((p : Int) + q) = getL (l.drop (p + q)) := by
        rw [HL.out]
        unfold atL
        rw [if_pos (by have := HSL.out; omega), show ((p : Int) + (q : Int)).toNat = p + q by omega]
      have C3 := Lib.hid (fun (W : World) (hB : Below wb.heap.size wb W) => num.getList24 s ((p : Int) + q) W hs (HV.out W hB))
      unfold ListSays at C3
      rw [e3] at C3
      have hq' := Lib.hid hq
      have H2 := Lib.hid h2
      have hd' : d ≤ 9223372036854775807 := hd
      clear e3 h2 hq hd
      cases h3 : getL (l.drop (p + q)) with
      | none =>
        have HG : Hid (getS l = none) := Lib.hid (by unfold getS; rw [H1.out]; simp only; rw [hp'.out, H2.out]; simp only; rw [hq'.out, h3])
        rw [h3] at C3
        simp only at C3
        clear h3
        go_enter Tryz.func103, Tryz.ntmps103
        go_wp2_with fail
        go_at_call 125
        refine C1.out.mono ?_
        rintro e w1 ⟨rfl, hB1⟩
        have HB1 := Lib.hid hB1
        clear hB1
        go_wp2_with fail
        go_at_call 125
        refine (C2.out w1 HB1.out).mono ?_
        rintro e w2 ⟨rfl, hB2⟩
        have HB2 := Lib.hid (HB1.out.trans (hB2.mono HB1.out.size))
        clear hB2 HB1
        go_wp2_with fail
        go_at_call 101
        refine (C3.out w2 HB2.out).mono ?_
        rintro e w3 ⟨hB3, rfl⟩
        have hX3 := Lib.hid (HX.out w3 (HB2.out.trans (hB3.mono HB2.out.size)))
        clear hB3 HB2
        go_wp2_with (refine wpList_storeS rfl (.tmp 2) (.tmp 37) rfl w.heap.size a d none 0 0 rfl rfl _ _ _ hX3.out.2 ?_; intro w4 hA4 hO4)
        obtain ⟨c0, c1, c2⟩ := three_at hA4
        refine bodyPost_ret (v := .tuple #[.agg #[.int .i64 a, .int .i64 d, .slice none 0 0], .int .i64 0, .bool false]) (by simp [results, Tryz.results103, go_sem, c0, c1, c2]) rfl (GetSays.no HG.out (hX3.out.1.trans (hO4.below (Nat.le_refl _))))
      | some ts =>
        have HG : Hid (getS l = some (a, d, ts)) := Lib.hid (by unfold getS; rw [H1.out]; simp only; rw [hp'.out, H2.out]; simp only; rw [hq'.out, h3])
        have hE : Hid ((p : Int) + q + (putL ts).length = ((enc a d ts).length : Nat)) := Lib.hid (by rw [enc_len, hp'.out, hq'.out]; omega)
        rw [h3] at C3
        simp only at C3
        clear h3
        go_enter Tryz.func103, Tryz.ntmps103
        go_wp2_with fail
        go_at_call 125
        refine C1.out.mono ?_
        rintro e w1 ⟨rfl, hB1⟩
        have HB1 := Lib.hid hB1
        clear hB1
        go_wp2_with fail
        go_at_call 125
        refine (C2.out w1 HB1.out).mono ?_
        rintro e w2 ⟨rfl, hB2⟩
        have HB2 := Lib.hid (HB1.out.trans (hB2.mono HB1.out.size))
        clear hB2 HB1
        go_wp2_with fail
        go_at_call 101
        refine (C3.out w2 HB2.out).mono ?_
        rintro e w3 ⟨hB3, A3, c3, rfl, ho3, _⟩
        have hX3 := Lib.hid (HX.out w3 (HB2.out.trans (hB3.mono HB2.out.size)))
        have hz2 : wb.heap.size ≤ w2.heap.size := HB2.out.size
        have HO3 := Lib.hid (row_lift ho3 (show w.heap.size + 1 ≤ w2.heap.size by omega))
        rw [hE.out]
        clear hB3 ho3 HB2
        go_wp2_with (refine wpList_storeS rfl (.tmp 2) (.tmp 37) rfl w.heap.size a d A3 ts.length c3 rfl rfl _ _ _ hX3.out.2 ?_; intro w4 hA4 hO4)
        obtain ⟨c0, c1, c2⟩ := three_at hA4
        refine bodyPost_ret (v := .tuple #[.agg #[.int .i64 a, .int .i64 d, .slice A3 ts.length c3], .int .i64 ((enc a d ts).length : Nat), .bool true]) (by simp [results, Tryz.results103, go_sem, c0, c1, c2]) rfl ⟨hX3.out.1.trans (hO4.below (Nat.le_refl _)), ?_⟩
        rw [HG.out]
        exact ⟨A3, c3, rfl, row_lift (own_same HO3.out fun b hb => hO4.block b (by have := (HO3.out.lt b hb).1; omega)) (by omega)⟩
end Go.Proofs.YtmknbakfjhjfmaaGreatDoor.sps

/-! Splices: Decode, of the program. -/
namespace Go.Proofs.YtmknbakfjhjfmaaGreatDoor.sps
open Go.RowKit Go.Lib pce
open num (getN getL putN putL MX atN retN atL ListSays strs')
set_option linter.unusedVariables false
set_option linter.unusedSimpArgs false
set_option linter.unnecessarySimpa false
set_option linter.unusedSectionVars false

/-- What Decode tells: ErrForm, and no splice; or the splice. -/
def DecSays (l : List UInt8) (w : World) (e : Ending) (w' : World) : Prop := Below w.heap.size w w' ∧
  match dec l with
  | none => e = .returned (.tuple #[.agg #[.int .i64 0, .int .i64 0, .slice none 0 0], .int .i64 40])
  | some (a, d, ts) => ∃ A c, e = .returned (.tuple #[.agg #[.int .i64 a, .int .i64 d, .slice A ts.length c], .int .i64 0]) ∧ w'.ownsRow w.heap.size 9 1 (.slice A ts.length c) ts.length (strs' ts)
theorem DecSays.no {l : List UInt8} {w w' : World} (h : dec l = none) (hB : Below w.heap.size w w') : DecSays l w (.returned (.tuple #[.agg #[.int .i64 0, .int .i64 0, .slice none 0 0], .int .i64 40])) w' := ⟨hB, by rw [h]⟩
theorem chkS_nat (a d : Nat) (ins : List ByteArray) : chkS a d ins = chk ins := by unfold chkS; rw [if_neg (by omega)]

set_option maxHeartbeats 8000000 in
set_option maxRecDepth 100000 in
theorem decode_is (s : ByteArray) (w : World) (hs : s.size ≤ 100000) (hV : num.Vars w.heap.size w) :
    Calls Tryz.prog 84 #[.string s] w (DecSays s.data.toList w) := by
  obtain ⟨l, hl⟩ : ∃ l, s.data.toList = l := ⟨_, rfl⟩
  have hsl : l.length = s.size := by rw [← hl]; exact num.size_list s
  obtain ⟨wb, hwb⟩ : ∃ wb, w.alloc (.cells #[.int .i64 0, .int .i64 0, .slice none 0 0] 46) = wb := ⟨_, rfl⟩
  have hX0 : Below w.heap.size w wb ∧ At wb w.heap.size 46 #[.int .i64 0, .int .i64 0, .slice none 0 0] ∧ w.heap.size + 1 ≤ wb.heap.size := by
    subst hwb
    exact ⟨(Below.refl _ _).alloc (Nat.le_refl _) _, At.new _ _ _, by simp⟩
  have HX := Lib.hid (fun (W : World) (hB : Below wb.heap.size wb W) => And.intro (hX0.1.trans (hB.mono hX0.1.size)) (hX0.2.1.same (hB.block _ hX0.2.1.lt)))
  have hzb := hX0.2.2
  have C1 := Lib.hid (get_is s wb hs ((hV.below hX0.1).more hX0.1.size))
  rw [hl] at C1
  unfold GetSays at C1
  have HSL := Lib.hid hsl
  rw [hl]
  clear hX0 hV hl hsl
  cases h1 : getS l with
  | none =>
    have HG : Hid (dec l = none) := Lib.hid (by unfold dec; rw [h1])
    rw [h1] at C1
    clear h1
    go_enter Tryz.func84, Tryz.ntmps84
    go_wp2_with fail
    go_at_call 103
    refine C1.out.mono ?_
    rintro e w1 ⟨hB1, a, d, rfl⟩
    have hX1 := HX.out w1 hB1
    obtain ⟨w2, hw2⟩ : ∃ w2, w1.alloc (.cells #[.int .i64 a, .int .i64 d, .slice none 0 0] 46) = w2 := ⟨_, rfl⟩
    have hB2 : Below w1.heap.size w1 w2 := by rw [← hw2]; exact (Below.refl _ _).alloc (Nat.le_refl _) _
    have hX2 := Lib.hid (HX.out w2 (hB1.trans (hB2.mono hB1.size)))
    clear hB1 hB2 hX1
    go_wp2_with (first
      | (refine wpList_storeL rfl (.tmp 4) (.tmp 10) rfl w1 _ _ _ rfl a d none 0 0 (by first | rfl | simp [Act.eval, Act.put]) (by first | rfl | simp [Act.eval, Act.put]) ?_; rw [hw2])
      | (refine wpList_storeS rfl (.tmp 2) (.tmp 26) rfl w.heap.size 0 0 none 0 0 (by first | rfl | simp [Act.eval, Act.put]) (by first | rfl | simp [Act.eval, Act.put]) _ _ _ hX2.out.2 ?_; intro w3 hA3 hO3)
      | fail "NONE")
    obtain ⟨c0, c1, c2⟩ := three_at hA3
    refine bodyPost_ret (v := .tuple #[.agg #[.int .i64 0, .int .i64 0, .slice none 0 0], .int .i64 40]) (by simp [results, Tryz.results84, go_sem, c0, c1, c2]) rfl (DecSays.no HG.out (hX2.out.1.trans (hO3.below (Nat.le_refl _))))
  | some x =>
    obtain ⟨a, d, ts⟩ := x
    rw [h1] at C1
    simp only at C1
    obtain ⟨ga, gd, _⟩ := getS_pre h1
    have ga' : a ≤ 9223372036854775807 := ga
    have gd' : d ≤ 9223372036854775807 := gd
    obtain ⟨N, hN⟩ : ∃ N, (enc a d ts).length = N := ⟨_, rfl⟩
    rw [hN] at C1
    have hts : ts.length ≤ N := by
      rw [← hN, enc_len]
      have := num.putN_len2 ts.length
      have h2 : ∀ (us : List (List UInt8)), us.length ≤ (us.flatMap num.putT).length := by
        intro us
        induction us with
        | nil => simp
        | cons t r ih =>
          rw [List.flatMap_cons, List.length_append, List.length_cons]
          have : 2 ≤ (num.putT t).length := by unfold num.putT; rw [List.length_append]; have := num.putN_len2 t.length; omega
          omega
      unfold putL
      rw [List.length_append]
      have := h2 ts
      omega
    obtain ⟨k, hk⟩ : ∃ k, chk (ts.map B) = k := ⟨_, rfl⟩
    have HK := Lib.hid hk
    have HNN := Lib.hid hN
    have HD : Hid (dec l = if l.length = N ∧ k = 0 then some (a, d, ts) else none) := Lib.hid (by unfold dec; rw [h1]; simp only; rw [hN, hk])
    have hNs : N ≤ s.size := by rw [← hN, ← HSL.out]; exact (getS_pre h1).2.2.length_le
    clear h1 ga gd hN hk
    by_cases heq : N = s.size
    · subst heq
      by_cases hk0 : k = 0
      · subst hk0
        have HG : Hid (dec l = some (a, d, ts)) := Lib.hid (by rw [HD.out, if_pos ⟨HSL.out, rfl⟩])
        go_enter Tryz.func84, Tryz.ntmps84
        go_wp2_with fail
        go_at_call 103
        refine C1.out.mono ?_
        rintro e w1 ⟨hB1, A1, c1, rfl, ho1⟩
        obtain ⟨w2, hw2⟩ : ∃ w2, w1.alloc (.cells #[.int .i64 a, .int .i64 d, .slice A1 ts.length c1] 46) = w2 := ⟨_, rfl⟩
        have hB2 : Below w1.heap.size w1 w2 := by rw [← hw2]; exact (Below.refl _ _).alloc (Nat.le_refl _) _
        have hA2 : At w2 w1.heap.size 46 #[.int .i64 a, .int .i64 d, .slice A1 ts.length c1] := by rw [← hw2]; exact At.new _ _ _
        have HB2 := Lib.hid (hB1.trans (hB2.mono hB1.size))
        have HA2 := Lib.hid hA2
        have HO2 := Lib.hid (own_keep ho1 hB2)
        obtain ⟨f0, f1, f2⟩ := three_at hA2
        clear hB1 hB2 hA2 ho1
        go_wp2_with (first
          | (refine wpList_storeL rfl (.tmp 4) (.tmp 10) rfl w1 _ _ _ rfl a d A1 ts.length c1 (by first | rfl | simp [Act.eval, Act.put]) (by first | rfl | simp [Act.eval, Act.put]) ?_; rw [hw2])
          | fail "NONE")
        go_at_call 61
        refine (check_is a d A1 ts.length c1 (ts.map B) w2 0 (by rw [chkS_nat]; exact HK.out) (by omega) (by omega) (by omega) (by omega) (by rw [List.length_map]) (by omega) (VRd.srd (VRd.of_own HO2.out))).mono ?_
        rintro e w3 ⟨rfl, hB3⟩
        have HA3 := HA2.out.same (hB3.block _ HA2.out.lt)
        have hX3 := Lib.hid (HX.out w3 (HB2.out.trans (hB3.mono HB2.out.size)))
        have HO3 := Lib.hid (own_keep HO2.out hB3)
        obtain ⟨f0, f1, f2⟩ := three_at HA3
        clear hB3 HA3 HA2 HB2 HO2 hw2
        go_wp2_with (first
          | (refine wpList_storeS rfl (.tmp 2) (.tmp 27) rfl w.heap.size a d A1 ts.length c1 (by first | rfl | simp [Act.eval, Act.put]) (by first | rfl | simp [Act.eval, Act.put]) _ _ _ hX3.out.2 ?_; intro w4 hA4 hO4)
          | fail "NONE")
        obtain ⟨c0, c1', c2⟩ := three_at hA4
        refine bodyPost_ret (v := .tuple #[.agg #[.int .i64 a, .int .i64 d, .slice A1 ts.length c1], .int .i64 0]) (by simp [results, Tryz.results84, go_sem, c0, c1', c2]) rfl ⟨hX3.out.1.trans (hO4.below (Nat.le_refl _)), ?_⟩
        rw [HG.out]
        exact ⟨A1, c1, rfl, row_lift (own_same HO3.out fun b hb => hO4.block b (by have := (HO3.out.lt b hb).1; omega)) (by omega)⟩
      · have HG : Hid (dec l = none) := Lib.hid (by rw [HD.out, if_neg (fun h => hk0 h.2)])
        have hqb : (k == 0) = false := by simpa using hk0
        have hqn : (k != 0) = true := by rw [bne, hqb]; rfl
        clear hk0
        go_enter Tryz.func84, Tryz.ntmps84
        go_wp2_with fail
        go_at_call 103
        refine C1.out.mono ?_
        rintro e w1 ⟨hB1, A1, c1, rfl, ho1⟩
        obtain ⟨w2, hw2⟩ : ∃ w2, w1.alloc (.cells #[.int .i64 a, .int .i64 d, .slice A1 ts.length c1] 46) = w2 := ⟨_, rfl⟩
        have hB2 : Below w1.heap.size w1 w2 := by rw [← hw2]; exact (Below.refl _ _).alloc (Nat.le_refl _) _
        have hA2 : At w2 w1.heap.size 46 #[.int .i64 a, .int .i64 d, .slice A1 ts.length c1] := by rw [← hw2]; exact At.new _ _ _
        have HB2 := Lib.hid (hB1.trans (hB2.mono hB1.size))
        have HO2 := Lib.hid (own_keep ho1 hB2)
        obtain ⟨f0, f1, f2⟩ := three_at hA2
        clear hB1 hB2 hA2 ho1
        go_wp2_with (first
          | (refine wpList_storeL rfl (.tmp 4) (.tmp 10) rfl w1 _ _ _ rfl a d A1 ts.length c1 (by first | rfl | simp [Act.eval, Act.put]) (by first | rfl | simp [Act.eval, Act.put]) ?_; rw [hw2])
          | fail "NONE")
        go_at_call 61
        refine (check_is a d A1 ts.length c1 (ts.map B) w2 k (by rw [chkS_nat]; exact HK.out) (by omega) (by omega) (by omega) (by omega) (by rw [List.length_map]) (by omega) (VRd.srd (VRd.of_own HO2.out))).mono ?_
        rintro e w3 ⟨rfl, hB3⟩
        have hX3 := Lib.hid (HX.out w3 (HB2.out.trans (hB3.mono HB2.out.size)))
        clear hB3 HB2 HO2 hw2 f0 f1 f2
        go_wp2_with (first
          | (refine wpList_storeS rfl (.tmp 2) (.tmp 26) rfl w.heap.size 0 0 none 0 0 (by first | rfl | simp [Act.eval, Act.put]) (by first | rfl | simp [Act.eval, Act.put]) _ _ _ hX3.out.2 ?_; intro w4 hA4 hO4)
          | fail "NONE")
        obtain ⟨c0, c1', c2⟩ := three_at hA4
        refine bodyPost_ret (v := .tuple #[.agg #[.int .i64 0, .int .i64 0, .slice none 0 0], .int .i64 40]) (by simp [results, Tryz.results84, go_sem, c0, c1', c2]) rfl (DecSays.no HG.out (hX3.out.1.trans (hO4.below (Nat.le_refl _))))
    · have HG : Hid (dec l = none) := Lib.hid (by rw [HD.out, if_neg (fun h => heq (by rw [← HSL.out]; exact h.1.symm))])
      have hqb : ((N : Int) == (s.size : Int)) = false := by simpa using fun h : (N : Int) = s.size => heq (by omega)
      have hqn : ((N : Int) != (s.size : Int)) = true := by rw [bne, hqb]; rfl
      go_enter Tryz.func84, Tryz.ntmps84
      go_wp2_with fail
      go_at_call 103
      refine C1.out.mono ?_
      rintro e w1 ⟨hB1, A1, c1, rfl, ho1⟩
      obtain ⟨w2, hw2⟩ : ∃ w2, w1.alloc (.cells #[.int .i64 a, .int .i64 d, .slice A1 ts.length c1] 46) = w2 := ⟨_, rfl⟩
      have hB2 : Below w1.heap.size w1 w2 := by rw [← hw2]; exact (Below.refl _ _).alloc (Nat.le_refl _) _
      have hX2 := Lib.hid (HX.out w2 (hB1.trans (hB2.mono hB1.size)))
      clear hB1 hB2 ho1
      go_wp2_with (first
        | (refine wpList_storeL rfl (.tmp 4) (.tmp 10) rfl w1 _ _ _ rfl a d A1 ts.length c1 (by first | rfl | simp [Act.eval, Act.put]) (by first | rfl | simp [Act.eval, Act.put]) ?_; rw [hw2])
        | (refine wpList_storeS rfl (.tmp 2) (.tmp 26) rfl w.heap.size 0 0 none 0 0 (by first | rfl | simp [Act.eval, Act.put]) (by first | rfl | simp [Act.eval, Act.put]) _ _ _ hX2.out.2 ?_; intro w3 hA3 hO3)
        | fail "NONE")
      obtain ⟨c0, c1', c2⟩ := three_at hA3
      refine bodyPost_ret (v := .tuple #[.agg #[.int .i64 0, .int .i64 0, .slice none 0 0], .int .i64 40]) (by simp [results, Tryz.results84, go_sem, c0, c1', c2]) rfl (DecSays.no HG.out (hX2.out.1.trans (hO3.below (Nat.le_refl _))))
end Go.Proofs.YtmknbakfjhjfmaaGreatDoor.sps
