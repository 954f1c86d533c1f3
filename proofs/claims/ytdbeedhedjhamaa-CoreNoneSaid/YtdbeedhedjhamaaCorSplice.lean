/- Core: Splice. -/
import Derived.Test.YtdbeedhedjhamaaCorApp
import Derived.Test.YtdbeedhedjhamaaCorBehind
import Derived.Test.YtdbeedhedjhamaaMrkKit
namespace Go.Proofs.Ytdbeedhedjhamaa.cor
open Go.RowKit Go.Lib pce sps mrk
set_option linter.unusedVariables false
set_option linter.unusedSimpArgs false
set_option linter.unnecessarySimpa false
set_option linter.unusedSectionVars false

section
variable {n cb gb kb rb : Nat} {w0 w w' : World} {G G' : Nat → Prop} {s : S} {u : Value} {o : Option M}
theorem Turned.mono {F F' : Nat → Prop} (h : Turned F w w') (hF : ∀ i, F i → F' i) : Turned F' w w' := ⟨h.os, h.tape, h.output, h.size, fun i hi hn => h.block i hi (fun hf => hn (hF i hf))⟩
theorem Bk.turned (h : Bk w G o u) (hW : Went G G' w w') (hX : ∀ b, (∃ cs, At w b 53 cs) → w'.heap[b]? = w.heap[b]?) (hGG : ∀ b, G b → G' b) : Bk w' G' o u := by
  cases o with
  | none => exact h
  | some m =>
    obtain ⟨bb, v, rfl, h1, h2, h3⟩ := h
    exact ⟨bb, v, rfl, hGG _ h1, h2.same (hX bb ⟨_, h2⟩), h3.went hW⟩
theorem infoS : (Try.prog.info? 24).map (fun i => (i.zero, i.size, i.bytes)) = some (some (.agg #[.int .i64 0, .int .i64 0, .slice none 0 0]), 3, 40) := by kernel_rfl
theorem at_cells {w : World} {b : Nat} {t : TypeId} {cs : List Value} (h : At w b t cs.toArray) : ∀ j u, cs[j]? = some u → w.cell? ((⟨b, 0, none⟩ : Addr).add j) = some u := fun j u hj => by
  rw [Go.WideShapes.add_plain, Nat.zero_add, h.cell j]
  simpa using hj
theorem flat_snoc (ts : List Ct) (t : Ct) : flat (ts ++ [t]) = flat ts ++ t.cells := by simp [flat]
theorem cr_splice {w6 w7 w8 w9 w10 w11 : World} {v v0 bk sl v' : Value} {last : ByteArray} {m0 m' : M} {ts : List Ct} {a d : Int} {A' : Option Addr} {c' tb' : Nat} {ins : List ByteArray}
    (h : Cr n w0 cb s G w) (hi : Is n w G cb s v bk (.pointer (some ⟨gb, 0, none⟩)) rb last) (hg : G gb) (hAg : At w gb 69 (chL v0 m0 (.pointer (some ⟨kb, 0, none⟩)) sl).toArray) (hM0 : Mo w G v0 m0) (hRk : Rg w G kb) (hkG : ¬ G kb) (hSp : Sps n w G sl ts)
    (hB6 : Below w.heap.size w w6) (h6 : w.heap.size < w6.heap.size) (hM6 : Mo w6 (fun b => G b ∨ b = w.heap.size) (.pointer (some ⟨tb', 0, none⟩)) m') (hO7 : Only cb w6 w7) (hA7 : At w7 cb 57 (coL (.pointer (some ⟨tb', 0, none⟩)) m' bk (.pointer (some ⟨gb, 0, none⟩)) (.pointer (some ⟨rb, 0, none⟩)) last s.dirty).toArray)
    (hL8 : Lst w8 (w7.heap.size ≤ ·) A' ins.length c' ins) (hB8 : Below w7.heap.size w7 w8) (hO9 : Only w.heap.size w8 w9) (hB10 : Below w9.heap.size w9 w10)
    (hown : w11.ownsRow n 24 3 v' (ts.length + 1) (flat ts ++ [.int .i64 a, .int .i64 d, .slice A' ins.length c'])) (hgrow : w10.grownBy w11 sl.ownBlock) (hwh : ∀ b, v'.ownBlock = some b → sl.ownBlock = some b ∨ w10.heap.size ≤ b)
    (ha1 : -9223372036854775808 ≤ a) (ha2 : a ≤ 9223372036854775807) (hd1 : -9223372036854775808 ≤ d) (hd2 : d ≤ 9223372036854775807) (hz : ∀ z ∈ ins, z.size ≤ maxLen) (hf : ins.length ≤ maxLen) :
    ∃ G', Cr n w0 cb ⟨m', s.back, some (m0, ts ++ [⟨a, d, A', c', ins⟩]), s.dirty⟩ G' (w11.setCell ⟨gb, 29, none⟩ v') ∧ Went G G' w (w11.setCell ⟨gb, 29, none⟩ v') := by
  obtain ⟨w12, hw12⟩ : ∃ w12, w11.setCell ⟨gb, 29, none⟩ v' = w12 := ⟨_, rfl⟩
  have hO12 : Only gb w11 w12 := hw12 ▸ Only.cell w11 gb 29 v'
  have hG := fun b (hb : G b) => (h.g b hb).2
  have z6 := hB6.size
  have z7 := hO7.size
  have z8 := hB8.size
  have z9 := hO9.size
  have z10 := hB10.size
  have z11 := hgrow.size
  have z12 := hO12.size
  have hcl := hi.at_.lt
  have hgl := hAg.lt
  have hol : ∀ b, sl.ownBlock = some b → b < w.heap.size := fun b hb => (hSp.own.lt b hb).2
  have ncg : cb ≠ gb := At.ne hi.at_ hAg (by decide)
  have nco : sl.ownBlock ≠ some cb := own_ne hSp.own hi.at_ (by decide)
  have ngo : sl.ownBlock ≠ some gb := own_ne hSp.own hAg (by decide)
  -- what has turned from each world on
  have T8 : Turned (fun b => b = w.heap.size ∨ b = gb ∨ sl.ownBlock = some b) w8 w12 := (((Turned.of_only (G := fun b => b = w.heap.size ∨ b = gb ∨ sl.ownBlock = some b) hO9 (.inl rfl)).then_below hB10).grown hgrow (fun k e => .inl (.inr (.inr e)))).then_only hO12 (.inl (.inr (.inl rfl)))
  have T7 : Turned (fun b => b = w.heap.size ∨ b = gb ∨ sl.ownBlock = some b) w7 w12 := (Turned.of_below hB8 _).trans T8 (fun i hi => .inl hi)
  have T6 : Turned (fun b => (b = cb ∨ b = gb ∨ sl.ownBlock = some b) ∨ b = w.heap.size) w6 w12 := (Turned.of_only (G := fun b => (b = cb ∨ b = gb ∨ sl.ownBlock = some b) ∨ b = w.heap.size) hO7 (.inl (.inl rfl))).trans T7 (fun i hi => .inl (by rcases hi with h | h | h; exact .inr h; exact .inl (.inr (.inl h)); exact .inl (.inr (.inr h))))
  have T12 : Turned (fun b => b = cb ∨ b = gb ∨ sl.ownBlock = some b) w w12 := (Turned.of_below hB6 _).trans T6 (fun i hi => hi.elim .inl (fun e => .inr (by omega)))
  have T11 : Turned (fun b => b = cb ∨ sl.ownBlock = some b) w w11 := ((((((Turned.of_below hB6 (fun b => b = cb ∨ sl.ownBlock = some b)).then_only hO7 (.inl (.inl rfl))).then_below hB8).then_only hO9 (.inr (Nat.le_refl _))).then_below hB10).grown hgrow (fun k e => .inl (.inr e)))
  have hX : ∀ b, (b = cb ∨ b = gb ∨ sl.ownBlock = some b) → G b := fun b hb => by
    rcases hb with rfl | rfl | hb
    · exact hi.gc
    · exact hg
    · exact hSp.g b hb
  have hN : ∀ b, ((G b ∨ b = w.heap.size) ∨ v'.ownBlock = some b) → (G b ∨ b = w.heap.size) ∨ w10.heap.size ≤ b := fun b hb => hb.elim .inl (fun e => (hwh b e).elim (fun h => .inl (.inl (hSp.g b h))) .inr)
  have W12 : Went G (fun b => (G b ∨ b = w.heap.size) ∨ v'.ownBlock = some b) w w12 := ⟨T12.mono hX, fun b hb => (hN b hb).elim (fun h => h.elim .inl (fun e => .inr (by omega))) (fun h => .inr (by omega))⟩
  have W6 : Went (fun b => G b ∨ b = w.heap.size) (fun b => (G b ∨ b = w.heap.size) ∨ v'.ownBlock = some b) w6 w12 := ⟨T6.mono (fun b hb => hb.elim (fun h => .inl (hX b h)) .inr), fun b hb => (hN b hb).elim .inl (fun h => .inr (by omega))⟩
  have hA12 : At w12 cb 57 (coL (.pointer (some ⟨tb', 0, none⟩)) m' bk (.pointer (some ⟨gb, 0, none⟩)) (.pointer (some ⟨rb, 0, none⟩)) last s.dirty).toArray :=
    hA7.same (T7.block cb (by omega) (fun hb => by rcases hb with h | h | h; omega; exact ncg h; exact nco h))
  have hAg11 : At w11 gb 69 (chL v0 m0 (.pointer (some ⟨kb, 0, none⟩)) sl).toArray := hAg.same (T11.block gb hgl (fun hb => by rcases hb with h | h; exact ncg h.symm; exact ngo h))
  have hAg12 : At w12 gb 69 (chL v0 m0 (.pointer (some ⟨kb, 0, none⟩)) v').toArray := hw12 ▸ ch_set29 hAg11 v'
  have hrg := hi.rg.lt
  have hkl := hRk.lt
  have hrg12 := hi.rg.went W12 (T12.block rb hrg (fun hb => by
    rcases hb with h | h | h
    · exact hi.rg.ne hi.at_ (by decide) h
    · exact hi.rg.ne hAg (by decide) h
    · obtain ⟨_, _, _, h1, _, _⟩ := hi.rg
      exact own_ne hSp.own h1 (by decide) h))
  have hbk12 := hi.back.turned W12 (fun b ⟨cs, hb⟩ => T12.block b hb.lt (fun hx => by
    rcases hx with h | h | h
    · exact At.ne hb hi.at_ (by decide) h
    · exact At.ne hb hAg (by decide) h
    · exact own_ne hSp.own hb (by decide) h)) (fun b hb => .inl (.inl hb))
  have hk12 := hRk.went W12 (T12.block kb hkl (fun hb => hkG (hX kb hb)))
  have hown12 : w12.ownsRow n 24 3 v' (ts.length + 1) (flat ts ++ [.int .i64 a, .int .i64 d, .slice A' ins.length c']) := own_same hown fun b hb => hO12.block b (fun e => own_ne hown hAg11 (by decide) (e ▸ hb))
  have hL12 : Lst w12 (fun b => ¬ ((G b ∨ b = w.heap.size) ∨ v'.ownBlock = some b)) A' ins.length c' ins := by
    have h1 := hL8.mono (F' := fun b => w7.heap.size ≤ b ∧ b < w8.heap.size) (fun b hb hl => ⟨hb, hl⟩)
    refine (h1.keep (fun b hb hl => T8.block b hl (fun hx => ?_)) T8.size).mono fun b hb _ hg => ?_
    · rcases hx with h | h | h
      · omega
      · omega
      · have := hol b h; omega
    · rcases hg with (h | h) | h
      · have := hG b h; omega
      · omega
      · rcases hwh b h with h | h
        · have := hol b h; omega
        · omega
  have hl12 : ∀ b, ((G b ∨ b = w.heap.size) ∨ v'.ownBlock = some b) → b < w12.heap.size := fun b hb => by
    rcases hb with (h | h) | h
    · have := hG b h; omega
    · omega
    · have := (hown.lt b h).2; omega
  rw [hw12]
  refine ⟨fun b => (G b ∨ b = w.heap.size) ∨ v'.ownBlock = some b, h.turned W12 hl12 (v := .pointer (some ⟨tb', 0, none⟩)) (bk := bk) (gn := .pointer (some ⟨gb, 0, none⟩)) (rb := rb) (last := last)
    ⟨hA12, .inl (.inl hi.gc), .inl (.inl hi.gr), hM6.went W6, hrg12, hbk12, ⟨gb, v0, kb, v', rfl, .inl (.inl hg), hAg12, hM0.went W12, hk12, ?_, ⟨?_, fun b hb => .inr hb, ?_⟩⟩⟩, W12⟩
  · intro hb
    rcases hb with (h | h) | h
    · exact hkG h
    · omega
    · rcases hwh kb h with h | h
      · exact hkG (hSp.g kb h)
      · omega
  · rw [flat_snoc, List.length_append]
    exact hown12
  · intro t ht
    rcases List.mem_append.1 ht with ht | ht
    · exact ct_went (hSp.each t ht) W12
    · rw [List.mem_singleton.1 ht]
      exact ⟨ha1, ha2, hd1, hd2, hL12, hz, hf⟩
/-- What Splice tells of a change that has begun: an error; or it is done. -/
def SplSays (n : Nat) (w0 w : World) (cb : Nat) (s : S) (G : Nat → Prop) (m0 : M) (ts : List Ct) (t : Ct) (k : Int) (e : Ending) (w' : World) : Prop := ∃ G', Went G G' w w' ∧ e = .returned (.int .i64 k) ∧
  ((¬ k = 0 ∧ Cr n w0 cb s G' w') ∨ (k = 0 ∧ ∃ A' c', Cr n w0 cb ⟨mSpl s.m t, s.back, some (m0, ts ++ [⟨t.a, t.d, A', c', t.ins⟩]), s.dirty⟩ G' w'))
set_option maxHeartbeats 4000000 in
set_option maxRecDepth 100000 in
theorem splice_is (h : Cr n w0 cb s G w) (m0 : M) (ts : List Ct) (hbg : s.begun = some (m0, ts)) (hts : ts.length ≤ 1000) (t : Ct) (F : Nat → Prop) (k : Int) (hk : splE s.m.L.length t.a t.d t.ins = k) (ht : CtOk w F t) (hF : ∀ b, F b → ¬ G b) (hb : t.ins.length ≤ 10000) :
    Calls Try.prog 21 #[.pointer (some ⟨cb, 0, none⟩), .agg #[.int .i64 t.a, .int .i64 t.d, .slice t.A t.ins.length t.c]] w (SplSays n w0 w cb s G m0 ts t k) := by
  obtain ⟨a, d, A, c, ins⟩ := t
  simp only at hk ht hb ⊢
  obtain ⟨w1, hw1⟩ : ∃ w1, w.alloc (.cells #[.int .i64 a, .int .i64 d, .slice A ins.length c] 24) = w1 := ⟨_, rfl⟩
  have hB1 : Below w.heap.size w w1 := hw1 ▸ (Below.refl _ _).alloc (Nat.le_refl _) _
  have hz1 : w1.heap.size = w.heap.size + 1 := by rw [← hw1]; simp
  have hA1 : At w1 w.heap.size 24 #[.int .i64 a, .int .i64 d, .slice A ins.length c] := hw1 ▸ At.new w _ _
  have hG := fun b (hb : G b) => (h.g b hb).2
  have hC1 := h.move hB1
  have KN := Lib.hid (isNone_is hC1)
  obtain ⟨v, bk, gn, rb, last, hi⟩ := h.is
  have hgn := hi.begun
  rw [hbg] at hgn
  obtain ⟨gb, v0, kb, sl, rfl, hg, hAg, hM0, hRk, hkG, hSp⟩ := hgn
  obtain ⟨tb, rfl, _⟩ := hi.cells
  have hG1 : ∀ b, (G b ∨ b = w.heap.size) → b < w1.heap.size := fun b hb => by
    rcases hb with hb | hb
    · have := hG b hb; omega
    · omega
  have hi1 := hi.grow (G' := fun b => G b ∨ b = w.heap.size) hB1 hG (fun b hb => .inl hb) (fun b hb => hb.elim .inl (fun e => .inr (by omega)))
  have KC : Hid (∀ W, Below w1.heap.size w1 W → W.cell? ⟨cb, 29, none⟩ = some (.pointer (some ⟨gb, 0, none⟩))) := Lib.hid fun W hW => (co_cells (hi.move (hB1.trans (hW.mono (by omega))) hG).at_).2.2.2.1
  have c29 := KC.out w1 (Below.refl _ _)
  have KM : Hid (∀ W, Below w1.heap.size w1 W → W.rangeAt cb 0 (moL (.pointer (some ⟨tb, 0, none⟩)) s.m)) := Lib.hid fun W hW => co_moment (hi.move (hB1.trans (hW.mono (by omega))) hG).at_
  have KX : Hid (∀ W, Below w1.heap.size w1 W → W.cell? ⟨w.heap.size, 0, none⟩ = some (.int .i64 a) ∧ W.cell? ⟨w.heap.size, 1, none⟩ = some (.int .i64 d) ∧ W.cell? ⟨w.heap.size, 2, none⟩ = some (.slice A ins.length c)) := Lib.hid fun W hW => three_at (hA1.same (hW.block _ (by omega)))
  have KB : Hid (∀ W (X : Nat → Prop), Below w1.heap.size w1 W → (∀ b, X b → w1.heap.size ≤ b ∧ b < W.heap.size) → Calls Try.prog 35 #[.agg (moL (.pointer (some ⟨tb, 0, none⟩)) s.m).toArray, .agg #[.int .i64 a, .int .i64 d, .slice A ins.length c]] W (BehSays W (fun b => (G b ∨ b = w.heap.size) ∨ X b) s.m ⟨a, d, A, c, ins⟩ k)) := Lib.hid fun W X hW hX =>
    behind_is W _ _ s.m ⟨a, d, A, c, ins⟩ F k hk (hi1.grow (G' := fun b => (G b ∨ b = w.heap.size) ∨ X b) hW hG1 (fun b hb => .inl hb) (fun b hb => hb.elim .inl (fun h => .inr (hX b h).1))).mo (fun b hb => hb.elim (fun h => Nat.lt_of_lt_of_le (hG1 b h) hW.size) (fun h => (hX b h).2)) (ht.keep (fun b _ hl => (hW.block b (by omega)).trans (hB1.block b hl)) (by have := hW.size; omega)) hb
  have KR : Hid (Below w1.heap.size w1 w1.drew) := Lib.hid (below_drew (Below.refl _ _))
  have KU : Hid (∀ w4 w5, Below w1.heap.size w1 w4 → Below w4.heap.size w4 w5 → Below w1.heap.size w1 w5) := Lib.hid fun w4 w5 h1 h2 => h1.trans (h2.mono h1.size)
  have HA1 := Lib.hid hA1
  have HB1 := Lib.hid hB1
  have HZ1 := Lib.hid hz1
  have HT := Lib.hid ht
  by_cases hk0 : k = 0
  · subst hk0
    obtain ⟨m', hm'⟩ : ∃ m', mSpl s.m ⟨a, d, A, c, ins⟩ = m' := ⟨_, rfl⟩
    obtain ⟨i0, hi0, hz00, hz01, hz02⟩ := info_parts infoS
    have KB2 : Hid (∀ W (X : Nat → Prop), Below w1.heap.size w1 W → (∀ b, X b → w1.heap.size ≤ b ∧ b < W.heap.size) → Calls Try.prog 35 #[.agg (moL (.pointer (some ⟨tb, 0, none⟩)) s.m).toArray, .agg #[.int .i64 a, .int .i64 d, .slice A ins.length c]] W fun e w' => ∃ tb', e = .returned (.tuple #[.agg (moL (.pointer (some ⟨tb', 0, none⟩)) m').toArray, .int .i64 0]) ∧ Hid (Mo w' (fun b => (G b ∨ b = w.heap.size) ∨ X b) (.pointer (some ⟨tb', 0, none⟩)) m') ∧ Below W.heap.size W w') := Lib.hid fun W X hW hX => by
      refine (KB.out W X hW hX).mono ?_
      rintro e w' ⟨h1, ⟨h0, _⟩ | ⟨_, v', rfl, hM⟩⟩
      · exact absurd rfl h0
      · rw [hm'] at hM ⊢
        obtain ⟨tb', rfl⟩ := hM.ptr
        exact ⟨tb', rfl, hM, h1⟩
    have KMA : Hid (∀ w4 w5 w6 bM tb', Mo w4 (fun b => (G b ∨ b = w.heap.size) ∨ False) (.pointer (some ⟨tb', 0, none⟩)) m' → Below w4.heap.size w4 w5 → w4.heap.size ≤ bM → Only bM w5 w6 → Mo w6 (fun b => G b ∨ b = w.heap.size) (.pointer (some ⟨tb', 0, none⟩)) m') := Lib.hid fun w4 w5 w6 bM tb' hM h1 h2 h3 =>
      hM.went ⟨(Turned.of_below h1 _).then_only h3 (.inr h2), fun b hb => .inl (.inl hb)⟩
    have KMB : Hid (∀ w4 w6 bM tb', Mo w4 (fun b => (G b ∨ b = w.heap.size) ∨ b = bM) (.pointer (some ⟨tb', 0, none⟩)) m' → Only bM w4 w6 → Mo w6 (fun b => G b ∨ b = w.heap.size) (.pointer (some ⟨tb', 0, none⟩)) m') := Lib.hid fun w4 w6 bM tb' hM h3 =>
      hM.went ⟨.of_only h3 (.inr rfl), fun b hb => .inl (.inl hb)⟩
    have KPc : Hid (∀ w6 tb', Mo w6 (fun b => G b ∨ b = w.heap.size) (.pointer (some ⟨tb', 0, none⟩)) m' → ∃ q : Nat, Calls Try.prog 36 #[.pointer (some ⟨tb', 0, none⟩)] w6 fun e w' => e = .returned (.int .i64 (q : Int)) ∧ w6 = w') := Lib.hid fun w6 tb' hM => by
      obtain ⟨ps, h1, _⟩ := hM.tab
      exact ⟨ps.length, pieces_is w6 _ _ ps h1⟩
    have KCp : Hid (∀ w6 bM tb', Below w1.heap.size w1 w6 → w1.heap.size ≤ bM → At w6 bM 53 (moL (.pointer (some ⟨tb', 0, none⟩)) m').toArray → Mo w6 (fun b => G b ∨ b = w.heap.size) (.pointer (some ⟨tb', 0, none⟩)) m' →
        Calls Try.prog 37 #[.pointer (some ⟨tb', 0, none⟩)] w6 fun e w' => ∃ tb2, e = .returned (.pointer (some ⟨tb2, 0, none⟩)) ∧ (w'.cell? ⟨bM, 0, none⟩ = some (.pointer (some ⟨tb', 0, none⟩)) ∧ w'.frozen? ⟨bM, 0, none⟩ = false) ∧ Hid (∀ wX, w'.setCell ⟨bM, 0, none⟩ (.pointer (some ⟨tb2, 0, none⟩)) = wX → Below w1.heap.size w1 wX ∧ At wX bM 53 (moL (.pointer (some ⟨tb2, 0, none⟩)) m').toArray ∧ Hid (Mo wX (fun b => G b ∨ b = w.heap.size) (.pointer (some ⟨tb2, 0, none⟩)) m'))) := Lib.hid fun w6 bM tb' hB6 hl hA6 hM => by
      obtain ⟨ps, ht6, hx6⟩ := hM.tab
      refine (compact_is w6 _ _ ps ht6).mono ?_
      rintro e w' ⟨v', ps', rfl, hT, hx, _, hBB⟩
      obtain ⟨tb2, rfl⟩ : ∃ tb2, v' = .pointer (some ⟨tb2, 0, none⟩) := by
        obtain ⟨b, _, _, _, rfl, _⟩ := hT
        exact ⟨b, rfl⟩
      have hbl := hA6.lt
      have hA7 := hA6.same (hBB.block bM hbl)
      refine ⟨tb2, rfl, ⟨(mo_cells hA7).1, hA7.frozen 0⟩, Lib.hid fun wX hX => ?_⟩
      have hO : Only bM w' wX := hX ▸ Only.cell _ _ _ _
      have hAX : At wX bM 53 (moL (.pointer (some ⟨tb2, 0, none⟩)) m').toArray := hX ▸ At.put1 (l1 := []) (l2 := .int .i64 m'.c :: arrL m'.f) hA7 _
      refine ⟨(hB6.trans (hBB.mono hB6.size)).trans (hO.below hl), hAX, Lib.hid ⟨⟨ps', ?_, hx.trans hx6⟩, hM.c0, hM.c1, hM.ints⟩⟩
      refine (hT.keep (fun b hb _ => hO.block b (by omega)) (by rw [hO.size]; exact Nat.le_refl _)).mono fun b hb _ hg => ?_
      have h1 := hG1 b hg
      have h2 := hB6.size
      omega
    have HCo : Hid (∀ W, Below w1.heap.size w1 W → At W cb 57 (coL (.pointer (some ⟨tb, 0, none⟩)) s.m bk (.pointer (some ⟨gb, 0, none⟩)) (.pointer (some ⟨rb, 0, none⟩)) last s.dirty).toArray) := Lib.hid fun W hW => (hi.move (hB1.trans (hW.mono (by omega))) hG).at_
    have ncx : cb ≠ w.heap.size := by have := hi.at_.lt; omega
    have ngx : gb ≠ w.heap.size := by have := hAg.lt; omega
    have ncg : cb ≠ gb := At.ne hi.at_ hAg (by decide)
    have ngo : sl.ownBlock ≠ some gb := own_ne hSp.own hAg (by decide)
    have nco : sl.ownBlock ≠ some cb := own_ne hSp.own hi.at_ (by decide)
    have nox : sl.ownBlock ≠ some w.heap.size := fun e => by have := (hSp.own.lt _ e).2; omega
    have KY : Hid (∀ w6 w7, Below w1.heap.size w1 w6 → Only cb w6 w7 → At w7 w.heap.size 24 #[.int .i64 a, .int .i64 d, .slice A ins.length c]) := Lib.hid fun w6 w7 h6 h7 => (hA1.same (h6.block _ (by omega))).same (h7.block _ (Ne.symm ncx))
    have KCl : Hid (∀ w6 w7, Below w1.heap.size w1 w6 → Only cb w6 w7 → Calls Try.prog 38 #[.slice A ins.length c] w7 fun e w' => ∃ A' c', e = .returned (.slice A' ins.length c') ∧ Hid (Lst w' (w7.heap.size ≤ ·) A' ins.length c' ins) ∧ Hid (Below w7.heap.size w7 w')) := Lib.hid fun w6 w7 h6 h7 => by
      have hL : Lst w7 F A ins.length c ins := ht.lst.keep (fun b hb hl => ((h7.block b (fun e => hF b hb (e ▸ hi.gc))).trans (h6.block b (by omega))).trans (hB1.block b hl)) (by rw [h7.size]; have := h6.size; omega)
      refine (clone_is w7 A ins.length c ins rfl (by omega) hL.nil hL.srd).mono ?_
      rintro e w' ⟨x, rfl, B, q, c', rfl, hq, ho, hB⟩
      subst hq
      exact ⟨B, c', rfl, sps.lst_own rfl ho, hB⟩
    have KG : Hid (∀ w6 w7 w8 w9, Below w1.heap.size w1 w6 → Only cb w6 w7 → Below w7.heap.size w7 w8 → Only w.heap.size w8 w9 → At w9 gb 69 (chL v0 m0 (.pointer (some ⟨kb, 0, none⟩)) sl).toArray ∧ w9.ownsRow n 24 3 sl ts.length (flat ts)) := Lib.hid fun w6 w7 w8 w9 h6 h7 h8 h9 => by
      have s6 := h6.size
      have e : ∀ b, b < w.heap.size → b ≠ cb → w9.heap[b]? = w.heap[b]? := fun b hl hc => (((h9.block b (by omega)).trans (h8.block b (by rw [h7.size]; omega))).trans (h7.block b hc)).trans ((h6.block b (by omega)).trans (hB1.block b hl))
      exact ⟨hAg.same (e gb hAg.lt (Ne.symm ncg)), own_same hSp.own fun b hb => e b (hSp.own.lt b hb).2 (fun e => own_ne hSp.own hi.at_ (by decide) (e ▸ hb))⟩
    have HE : Hid (∀ w6 w7 w8 w9 w10 w11 v' A' c' tb', Below w1.heap.size w1 w6 → Mo w6 (fun b => G b ∨ b = w.heap.size) (.pointer (some ⟨tb', 0, none⟩)) m' → Only cb w6 w7 → At w7 cb 57 (coL (.pointer (some ⟨tb', 0, none⟩)) m' bk (.pointer (some ⟨gb, 0, none⟩)) (.pointer (some ⟨rb, 0, none⟩)) last s.dirty).toArray →
        Lst w8 (w7.heap.size ≤ ·) A' ins.length c' ins → Below w7.heap.size w7 w8 → Only w.heap.size w8 w9 → Below w9.heap.size w9 w10 → w11.ownsRow n 24 3 v' (ts.length + 1) (flat ts ++ [.int .i64 a, .int .i64 d, .slice A' ins.length c']) → w10.grownBy w11 sl.ownBlock → (∀ b, v'.ownBlock = some b → sl.ownBlock = some b ∨ w10.heap.size ≤ b) →
        SplSays n w0 w cb s G m0 ts ⟨a, d, A, c, ins⟩ 0 (.returned (.int .i64 0)) (w11.setCell ⟨gb, 29, none⟩ v')) := Lib.hid fun w6 w7 w8 w9 w10 w11 v' A' c' tb' h6 hM h7 hA7 h8 hB8 h9 h10 hown hgrow hwh => by
      obtain ⟨G', hcr, hw⟩ := cr_splice h hi hg hAg hM0 hRk hkG hSp (hB1.trans (h6.mono (by omega))) (by have := h6.size; omega) hM h7 hA7 h8 hB8 h9 h10 hown hgrow hwh ht.a1 ht.a2 ht.d1 ht.d2 ht.size ht.few
      exact ⟨G', hw, rfl, .inr ⟨rfl, A', c', by rw [hm']; exact hcr⟩⟩
    have hnn := h.size
    have HNN : Hid (∀ w6 w7 w8 w9, Below w1.heap.size w1 w6 → Only cb w6 w7 → Below w7.heap.size w7 w8 → Only w.heap.size w8 w9 → n ≤ w9.heap.size) := Lib.hid fun w6 w7 w8 w9 h6 h7 h8 h9 => by
      have := h6.size; have := h8.size; have := h7.size; have := h9.size; omega
    clear hi hi1 hAg hM0 hRk hkG hSp hG1 hC1 hA1 hB1 hz1 h hG hk ht KB hm' hg hF hnn
    go_enter Try.func21, Try.ntmps21
    go_wp2_with (first
      | (refine wpList_boxV rfl 24 _ rfl _ rfl ?_; rw [hw1]; clear hw1)
      | (go_at_call 28; (with_reducible refine KN.out.mono ?_); rintro e w2 ⟨rfl, rfl⟩)
      | fail "NONE")
    refine wp_region_noPanic ?_
    refine wp_region_held_drew (S := fun W => Below w1.heap.size w1 W) (by kernel_rfl) (by (try dsimp only); first | assumption | exact KR.out) (fun hHeld => ?_)
    refine held.take (i := 0) (v := .pointer (some ⟨cb, 0, none⟩)) rfl (by kernel_rfl) (by kernel_rfl) (by kernel_rfl) (fun _ _ _ h => h) (Or.inl ⟨by rfl, fun W hW => by (try dsimp only at hW); go_simp⟩) (by assumption) ?_
    (try simp only [Act.put, List.setIfInBounds_toArray, List.set_cons_zero, List.set_cons_succ])
    refine held.take (i := 1) (v := .pointer (some ⟨cb, 0, none⟩)) rfl (by kernel_rfl) (by kernel_rfl) (by kernel_rfl) (fun _ _ _ h => h) (Or.inl ⟨by rfl, fun W hW => by (try dsimp only at hW); go_simp⟩) (by assumption) ?_
    (try simp only [Act.put, List.setIfInBounds_toArray, List.set_cons_zero, List.set_cons_succ])
    refine held.take (i := 2) (v := .pointer (some ⟨cb, 0, none⟩)) rfl (by kernel_rfl) (by kernel_rfl) (by kernel_rfl) (fun _ _ _ h => h) (Or.inl ⟨by rfl, fun W hW => by (try dsimp only at hW); go_simp⟩) (by assumption) ?_
    (try simp only [Act.put, List.setIfInBounds_toArray, List.set_cons_zero, List.set_cons_succ])
    refine held.take (i := 3) (v := .agg (moL (.pointer (some ⟨tb, 0, none⟩)) s.m).toArray) rfl (by kernel_rfl) (by kernel_rfl) (by kernel_rfl) (fun _ _ _ h => h) (yields_loadV (by rfl) _ _ rfl undM infM cb 0 rfl _ (moL_len _ _) (fun W hW => KM.out W hW)) (by assumption) ?_
    (try simp only [Act.put, List.setIfInBounds_toArray, List.set_cons_zero, List.set_cons_succ])
    refine held.take (i := 4) (v := .agg #[.int .i64 a, .int .i64 d, .slice A ins.length c]) rfl (by kernel_rfl) (by kernel_rfl) (by kernel_rfl) (fun _ _ _ h => h) (Or.inl ⟨by rfl, fun W hW => by (try dsimp only at hW); obtain ⟨x0, x1, x2⟩ := KX.out W hW; go_simp⟩) (by assumption) ?_
    (try simp only [Act.put, List.setIfInBounds_toArray, List.set_cons_zero, List.set_cons_succ])
    refine held_two (i := 5) (j := 9) (by kernel_rfl) rfl rfl (fun K hK => ?_) (fun K hK => ?_)
    · skip
      go_simp
      go_at_call 35
      (with_reducible refine (KB2.out _ (fun _ => False) hHeld (fun _ h => h.elim)).mono ?_)
      rintro e w4 ⟨tb', rfl, hM4, hB4'⟩
      have hB4 := KU.out _ w4 hHeld hB4'
      refine hK.out _ _ (by (try dsimp only); first | assumption | exact KR.out) (fun hHeld => ?_)
      clear hK K
      (try simp only [Act.put, List.setIfInBounds_toArray, List.set_cons_zero, List.set_cons_succ])
      refine held.take (i := 6) (v := .tuple #[.agg (moL (.pointer (some ⟨tb', 0, none⟩)) m').toArray, .int .i64 0]) rfl (by kernel_rfl) (by kernel_rfl) (by kernel_rfl) (fun _ _ _ h => h) (Or.inl ⟨by rfl, fun W hW => by (try dsimp only at hW); go_simp⟩) (by assumption) ?_
      (try simp only [Act.put, List.setIfInBounds_toArray, List.set_cons_zero, List.set_cons_succ])
      refine held.take (i := 7) (v := .agg (moL (.pointer (some ⟨tb', 0, none⟩)) m').toArray) rfl (by kernel_rfl) (by kernel_rfl) (by kernel_rfl) (fun _ _ _ h => h) (Or.inl ⟨by rfl, fun W hW => by (try dsimp only at hW); go_simp⟩) (by assumption) ?_
      (try simp only [Act.put, List.setIfInBounds_toArray, List.set_cons_zero, List.set_cons_succ])
      refine held.take (i := 8) (v := .int .i64 0) rfl (by kernel_rfl) (by kernel_rfl) (by kernel_rfl) (fun _ _ _ h => h) (Or.inl ⟨by rfl, fun W hW => by (try dsimp only at hW); go_simp⟩) (by assumption) ?_
      (try simp only [Act.put, List.setIfInBounds_toArray, List.set_cons_zero, List.set_cons_succ])
      refine held.only (i := 9) (by kernel_rfl) rfl (fun K hK => ?_)
      refine step_of rfl (wp_allocV 53 rfl (moL (.pointer none) zeroM).toArray (zerM _) ?_)
      obtain ⟨w5, hw5⟩ : ∃ w5, World.alloc w4 (.cells (moL (.pointer none) zeroM).toArray 53) = w5 := ⟨_, rfl⟩
      rw [hw5]
      have hB45 : Below (World.heap w4).size w4 w5 := hw5 ▸ (Below.refl _ _).alloc (Nat.le_refl _) _
      have hA5 : At w5 (World.heap w4).size 53 (moL (.pointer none) zeroM).toArray := hw5 ▸ At.new _ _ _
      have hl5 : w1.heap.size ≤ (World.heap w4).size := (Below.size hHeld)
      have hB5 := KU.out _ w5 hHeld hB45
      clear hw5
      refine hK.out _ _ (by (try dsimp only); first | assumption | exact KR.out) (fun hHeld => ?_)
      clear hK K
      (try simp only [Act.put, List.setIfInBounds_toArray, List.set_cons_zero, List.set_cons_succ])
      refine held.only (i := 10) (by kernel_rfl) rfl (fun K hK => ?_)
      refine step_of rfl (wp_storeMo (.tmp 5) (.tmp 21) rfl _ _ _ hA5 (some ⟨tb', 0, none⟩) m' rfl rfl ?_)
      intro w6 hA6 hO6
      have hB6 := hHeld.trans (hO6.below hl5)
      have hM6 := Lib.hid (KMA.out _ _ _ _ _ hM4.out hB45 (Nat.le_refl _) hO6)
      refine hK.out _ _ (by (try dsimp only); first | assumption | exact KR.out) (fun hHeld => ?_)
      clear hK K
      (try simp only [Act.put, List.setIfInBounds_toArray, List.set_cons_zero, List.set_cons_succ])
      refine held.take (i := 11) (v := .int .i64 0) rfl (by kernel_rfl) (by kernel_rfl) (by kernel_rfl) (fun _ _ _ h => h) (Or.inl ⟨by rfl, fun W hW => by (try dsimp only at hW); go_simp⟩) (by assumption) ?_
      (try simp only [Act.put, List.setIfInBounds_toArray, List.set_cons_zero, List.set_cons_succ])
      refine wpAnyH_done (by kernel_rfl) ?_ _
      refine NoPanic.normal ?_
      have hA6 : At w6 (World.heap w4).size 53 (moL (.pointer (some ⟨tb', 0, none⟩)) m').toArray := hA6
      have hl5 : w1.heap.size ≤ (World.heap w4).size := hl5
      clear hA5
      obtain ⟨q, hPc⟩ := KPc.out _ _ hM6.out
      have cm6 := (mo_cells hA6).1
      have HPc := Lib.hid hPc
      clear hPc
      by_cases hq64 : (64 : Int) < (q : Int)
      · go_wp2_with (first
          | (go_at_call 36; (with_reducible refine HPc.out.mono ?_); rintro e w6p ⟨rfl, rfl⟩)
          | (go_at_call 37; (with_reducible refine (KCp.out _ _ _ hB6 hl5 hA6 hM6.out).mono ?_); rintro e w6b ⟨tb', rfl, ⟨d0, f0⟩, h7⟩; obtain ⟨hB6, hA6, hM6⟩ := h7.out _ rfl)
          | (refine wpList_loadV rfl 53 _ rfl undM infM _ 0 rfl _ (moL_len _ _) (At.whole hA6) ?_)
          | (refine wpList_storeCo rfl (.tmp 37) (.tmp 35) rfl (HCo.out _ hB6) (some ⟨tb', 0, none⟩) m' rfl rfl ?_; intro w7 hA7 hO7; have hX7 := KY.out _ _ hB6 hO7; obtain ⟨y0, y1, y2⟩ := three_at hX7)
          | (go_at_call 38; (with_reducible refine (KCl.out _ _ hB6 hO7).mono ?_); rintro e w8 ⟨A', c', rfl, hL8, hB8⟩; have hX8 := At.same hX7 (hB8.out.block _ hX7.lt); have z2 := hX8.cell 2; have f2 := hX8.frozen 2)
          | fail "NONE")
        obtain ⟨w9, hw9⟩ : ∃ w9, w8.setCell ⟨w.heap.size, 2, none⟩ (.slice A' ins.length c') = w9 := ⟨_, rfl⟩
        rw [hw9]
        have hO9 : Only w.heap.size w8 w9 := hw9 ▸ Only.cell _ _ _ _
        have hX9 : At w9 w.heap.size 24 #[.int .i64 a, .int .i64 d, .slice A' ins.length c'] := hw9 ▸ At.set hX8 2 (.slice A' ins.length c')
        obtain ⟨hG9, hOwn9⟩ := KG.out _ _ _ _ hB6 hO7 hB8.out hO9
        have hn9 := HNN.out _ _ _ _ hB6 hO7 hB8.out hO9
        have g29 := (ch_cells hG9).2
        have hC9 := hA7.same ((hO9.block cb ncx).trans (hB8.out.block cb hA7.lt))
        have c29' := (co_cells hC9).2.2.2.1
        obtain ⟨q0, q1, q2⟩ := three_at hX9
        have hTd : Turned (fun b => b = gb ∨ sl.ownBlock = some b) w9 w9.drew := Turned.of_below (below_drew (Below.refl _ _)) _
        have KS9 : Hid (∀ W, Turned (fun b => b = gb ∨ sl.ownBlock = some b) w9 W → W.cell? ⟨cb, 29, none⟩ = some (.pointer (some ⟨gb, 0, none⟩)) ∧ W.cell? ⟨w.heap.size, 0, none⟩ = some (.int .i64 a) ∧ W.cell? ⟨w.heap.size, 1, none⟩ = some (.int .i64 d) ∧ W.cell? ⟨w.heap.size, 2, none⟩ = some (.slice A' ins.length c')) := Lib.hid fun W hW => ⟨(co_cells (hW.at hC9 (fun h => h.elim ncg nco))).2.2.2.1, three_at (hW.at hX9 (fun h => h.elim (fun e => ngx e.symm) nox))⟩
        have hGd := Turned.at (Turned.of_below (below_drew (Below.refl w9.heap.size w9)) (fun _ => False)) hG9 (fun h => h)
        have hWd := own_keep hOwn9 (below_drew (Below.refl w9.heap.size w9))
        have g29d := (ch_cells hGd).2
        have HTd := Lib.hid hTd
        have HG9 := Lib.hid hG9
        have HW9 := Lib.hid hOwn9
        have HN9 := Lib.hid hn9
        have HNGO := Lib.hid ngo
        clear hw9 hX9 hG9 hOwn9 hC9 hX8 hX7 y0 y1 y2 z2 f2 hn9 ngo c29 hTd hGd hWd g29 c29' q0 q1 q2
        refine wp_region_noPanic ?_
        refine wp_region_held_drew (S := fun W => Turned (fun b => b = gb ∨ sl.ownBlock = some b) w9 W) (by kernel_rfl) (by (try dsimp only); first | assumption | exact HTd.out) (fun hHeld => ?_)
        refine held.take (i := 0) (v := .pointer (some ⟨cb, 0, none⟩)) rfl (by kernel_rfl) (by kernel_rfl) (by kernel_rfl) (fun _ _ _ h => h) (Or.inl ⟨by rfl, fun W hW => by (try dsimp only at hW); go_simp⟩) (by assumption) ?_
        (try simp only [Act.put, List.setIfInBounds_toArray, List.set_cons_zero, List.set_cons_succ])
        refine held.take (i := 1) (v := .pointer (some ⟨cb, 0, none⟩)) rfl (by kernel_rfl) (by kernel_rfl) (by kernel_rfl) (fun _ _ _ h => h) (Or.inl ⟨by rfl, fun W hW => by (try dsimp only at hW); go_simp⟩) (by assumption) ?_
        (try simp only [Act.put, List.setIfInBounds_toArray, List.set_cons_zero, List.set_cons_succ])
        refine held.take (i := 2) (v := .pointer (some ⟨cb, 29, none⟩)) rfl (by kernel_rfl) (by kernel_rfl) (by kernel_rfl) (fun _ _ _ h => h) (Or.inl ⟨by rfl, fun W hW => by (try dsimp only at hW); go_simp⟩) (by assumption) ?_
        (try simp only [Act.put, List.setIfInBounds_toArray, List.set_cons_zero, List.set_cons_succ])
        refine held.take (i := 3) (v := .pointer (some ⟨gb, 0, none⟩)) rfl (by kernel_rfl) (by kernel_rfl) (by kernel_rfl) (fun _ _ _ h => h) (Or.inl ⟨by rfl, fun W hW => by (try dsimp only at hW); have c29 := (KS9.out W hW).1; go_simp⟩) (by assumption) ?_
        (try simp only [Act.put, List.setIfInBounds_toArray, List.set_cons_zero, List.set_cons_succ])
        refine held.take (i := 4) (v := .pointer (some ⟨cb, 0, none⟩)) rfl (by kernel_rfl) (by kernel_rfl) (by kernel_rfl) (fun _ _ _ h => h) (Or.inl ⟨by rfl, fun W hW => by (try dsimp only at hW); go_simp⟩) (by assumption) ?_
        (try simp only [Act.put, List.setIfInBounds_toArray, List.set_cons_zero, List.set_cons_succ])
        refine held.take (i := 5) (v := .pointer (some ⟨cb, 0, none⟩)) rfl (by kernel_rfl) (by kernel_rfl) (by kernel_rfl) (fun _ _ _ h => h) (Or.inl ⟨by rfl, fun W hW => by (try dsimp only at hW); go_simp⟩) (by assumption) ?_
        (try simp only [Act.put, List.setIfInBounds_toArray, List.set_cons_zero, List.set_cons_succ])
        refine held.take (i := 6) (v := .pointer (some ⟨cb, 29, none⟩)) rfl (by kernel_rfl) (by kernel_rfl) (by kernel_rfl) (fun _ _ _ h => h) (Or.inl ⟨by rfl, fun W hW => by (try dsimp only at hW); go_simp⟩) (by assumption) ?_
        (try simp only [Act.put, List.setIfInBounds_toArray, List.set_cons_zero, List.set_cons_succ])
        refine held.take (i := 7) (v := .pointer (some ⟨gb, 0, none⟩)) rfl (by kernel_rfl) (by kernel_rfl) (by kernel_rfl) (fun _ _ _ h => h) (Or.inl ⟨by rfl, fun W hW => by (try dsimp only at hW); have c29 := (KS9.out W hW).1; go_simp⟩) (by assumption) ?_
        (try simp only [Act.put, List.setIfInBounds_toArray, List.set_cons_zero, List.set_cons_succ])
        refine held.take (i := 8) (v := .pointer (some ⟨gb, 0, none⟩)) rfl (by kernel_rfl) (by kernel_rfl) (by kernel_rfl) (fun _ _ _ h => h) (Or.inl ⟨by rfl, fun W hW => by (try dsimp only at hW); go_simp⟩) (by assumption) ?_
        (try simp only [Act.put, List.setIfInBounds_toArray, List.set_cons_zero, List.set_cons_succ])
        refine held.take (i := 9) (v := .pointer (some ⟨gb, 29, none⟩)) rfl (by kernel_rfl) (by kernel_rfl) (by kernel_rfl) (fun _ _ _ h => h) (Or.inl ⟨by rfl, fun W hW => by (try dsimp only at hW); go_simp⟩) (by assumption) ?_
        (try simp only [Act.put, List.setIfInBounds_toArray, List.set_cons_zero, List.set_cons_succ])
        refine held.take (i := 11) (v := .agg #[.int .i64 a, .int .i64 d, .slice A' ins.length c']) rfl (by kernel_rfl) (by kernel_rfl) (by kernel_rfl) (fun _ _ _ h => h) (Or.inl ⟨by rfl, fun W hW => by (try dsimp only at hW); obtain ⟨_, x0, x1, x2⟩ := KS9.out W hW; go_simp⟩) (by assumption) ?_
        (try simp only [Act.put, List.setIfInBounds_toArray, List.set_cons_zero, List.set_cons_succ])
        refine held_two (i := 10) (j := 12) (by kernel_rfl) rfl rfl (fun K hK => ?_) (fun K hK => ?_)
        · skip
          go_simp
          refine hK.out _ _ (by (try dsimp only); first | assumption | exact HTd.out) (fun hHeld => ?_)
          clear hK K
          (try simp only [Act.put, List.setIfInBounds_toArray, List.set_cons_zero, List.set_cons_succ])
          refine held.only (i := 12) (by kernel_rfl) rfl (fun K hK => ?_)
          go_simp
          obtain ⟨wa, hwa⟩ : ∃ wa, (World.alloc w9 (.cells #[.int .i64 a, .int .i64 d, .slice A' ins.length c'] 24)).drew = wa := ⟨_, rfl⟩
          rw [hwa]
          have hBa : Below w9.heap.size w9 wa := hwa ▸ below_drew ((Below.refl _ _).alloc (Nat.le_refl _) _)
          have hTa : Turned (fun b => b = gb ∨ sl.ownBlock = some b) w9 wa := Turned.of_below hBa _
          have hGa := HG9.out.same (hBa.block gb HG9.out.lt)
          have hWa := own_keep HW9.out hBa
          have hAa : At wa w9.heap.size 24 #[.int .i64 a, .int .i64 d, .slice A' ins.length c'] := hwa ▸ (show At (World.alloc w9 (.cells #[.int .i64 a, .int .i64 d, .slice A' ins.length c'] 24)).drew w9.heap.size _ _ from At.new w9 _ _)
          have hna : n ≤ wa.heap.size := Nat.le_trans HN9.out hBa.size
          have g29a := (ch_cells hGa).2
          clear hwa
          refine hK.out _ _ (by (try dsimp only); first | assumption | exact HTd.out) (fun hHeld => ?_)
          clear hK K
          (try simp only [Act.put, List.setIfInBounds_toArray, List.set_cons_zero, List.set_cons_succ])
          refine held.only (i := 13) (by kernel_rfl) rfl (fun K hK => ?_)
          refine step_of rfl (wp_append_at _ (.tmp 52) (.tmp 54) 31 rfl n 24 i0 _ 3 40 Try.underlying31 hi0 hz00 hz01 hz02 rfl (by decide) sl ts.length (flat ts) rfl hWa ⟨w9.heap.size, 0, none⟩ 1 1 [.int .i64 a, .int .i64 d, .slice A' ins.length c'] rfl rfl (at_cells hAa) (by simp [Value.oneCell']) (by unfold maxLen; omega) (by omega) hna ?_)
          intro v' w11 hown hgrow hwh
          obtain ⟨A9, c9, rfl⟩ := own_slice hown
          have hG11 := hGa.same (hgrow.block gb hGa.lt (fun e => HNGO.out e.symm))
          have hT11 := hTa.grown hgrow (fun k e => .inl (.inr e))
          have c11 := (ch_cells hG11).2
          have f11 := hG11.frozen 29
          refine hK.out _ _ (by (try dsimp only); first | assumption | exact HTd.out) (fun hHeld => ?_)
          clear hK K
          (try simp only [Act.put, List.setIfInBounds_toArray, List.set_cons_zero, List.set_cons_succ])
          refine held.take (i := 14) (v := .pointer (some ⟨gb, 0, none⟩)) rfl (by kernel_rfl) (by kernel_rfl) (by kernel_rfl) (fun _ _ _ h => h) (Or.inl ⟨by rfl, fun W hW => by (try dsimp only at hW); go_simp⟩) (by assumption) ?_
          (try simp only [Act.put, List.setIfInBounds_toArray, List.set_cons_zero, List.set_cons_succ])
          refine held.take (i := 15) (v := .pointer (some ⟨gb, 29, none⟩)) rfl (by kernel_rfl) (by kernel_rfl) (by kernel_rfl) (fun _ _ _ h => h) (Or.inl ⟨by rfl, fun W hW => by (try dsimp only at hW); go_simp⟩) (by assumption) ?_
          (try simp only [Act.put, List.setIfInBounds_toArray, List.set_cons_zero, List.set_cons_succ])
          refine held.only (i := 16) (by kernel_rfl) rfl (fun K hK => ?_)
          go_simp
          have hT12 := hT11.then_only (Only.cell w11 gb 29 (.slice A9 (ts.length + 1) c9)) (.inl (.inl rfl))
          refine hK.out _ _ (by (try dsimp only); first | assumption | exact HTd.out) (fun hHeld => ?_)
          clear hK K
          (try simp only [Act.put, List.setIfInBounds_toArray, List.set_cons_zero, List.set_cons_succ])
          refine wpAnyH_done (by kernel_rfl) ?_ _
          refine NoPanic.normal ?_
          go_wp2
          go_ret
          exact HE.out _ _ _ _ _ _ _ _ _ _ hB6 hM6.out hO7 hA7 hL8.out hB8.out hO9 hBa hown hgrow hwh
        · skip
          go_simp
          obtain ⟨wa, hwa⟩ : ∃ wa, (World.alloc w9 (.cells #[.int .i64 a, .int .i64 d, .slice A' ins.length c'] 24)).drew = wa := ⟨_, rfl⟩
          rw [hwa]
          have hBa : Below w9.heap.size w9 wa := hwa ▸ below_drew ((Below.refl _ _).alloc (Nat.le_refl _) _)
          have hTa : Turned (fun b => b = gb ∨ sl.ownBlock = some b) w9 wa := Turned.of_below hBa _
          have hGa := HG9.out.same (hBa.block gb HG9.out.lt)
          have hWa := own_keep HW9.out hBa
          have hAa : At wa w9.heap.size 24 #[.int .i64 a, .int .i64 d, .slice A' ins.length c'] := hwa ▸ (show At (World.alloc w9 (.cells #[.int .i64 a, .int .i64 d, .slice A' ins.length c'] 24)).drew w9.heap.size _ _ from At.new w9 _ _)
          have hna : n ≤ wa.heap.size := Nat.le_trans HN9.out hBa.size
          have g29a := (ch_cells hGa).2
          clear hwa
          refine hK.out _ _ (by (try dsimp only); first | assumption | exact HTd.out) (fun hHeld => ?_)
          clear hK K
          (try simp only [Act.put, List.setIfInBounds_toArray, List.set_cons_zero, List.set_cons_succ])
          refine held.only (i := 10) (by kernel_rfl) rfl (fun K hK => ?_)
          go_simp
          refine hK.out _ _ (by (try dsimp only); first | assumption | exact HTd.out) (fun hHeld => ?_)
          clear hK K
          (try simp only [Act.put, List.setIfInBounds_toArray, List.set_cons_zero, List.set_cons_succ])
          refine held.only (i := 13) (by kernel_rfl) rfl (fun K hK => ?_)
          refine step_of rfl (wp_append_at _ (.tmp 52) (.tmp 54) 31 rfl n 24 i0 _ 3 40 Try.underlying31 hi0 hz00 hz01 hz02 rfl (by decide) sl ts.length (flat ts) rfl hWa ⟨w9.heap.size, 0, none⟩ 1 1 [.int .i64 a, .int .i64 d, .slice A' ins.length c'] rfl rfl (at_cells hAa) (by simp [Value.oneCell']) (by unfold maxLen; omega) (by omega) hna ?_)
          intro v' w11 hown hgrow hwh
          obtain ⟨A9, c9, rfl⟩ := own_slice hown
          have hG11 := hGa.same (hgrow.block gb hGa.lt (fun e => HNGO.out e.symm))
          have hT11 := hTa.grown hgrow (fun k e => .inl (.inr e))
          have c11 := (ch_cells hG11).2
          have f11 := hG11.frozen 29
          refine hK.out _ _ (by (try dsimp only); first | assumption | exact HTd.out) (fun hHeld => ?_)
          clear hK K
          (try simp only [Act.put, List.setIfInBounds_toArray, List.set_cons_zero, List.set_cons_succ])
          refine held.take (i := 14) (v := .pointer (some ⟨gb, 0, none⟩)) rfl (by kernel_rfl) (by kernel_rfl) (by kernel_rfl) (fun _ _ _ h => h) (Or.inl ⟨by rfl, fun W hW => by (try dsimp only at hW); go_simp⟩) (by assumption) ?_
          (try simp only [Act.put, List.setIfInBounds_toArray, List.set_cons_zero, List.set_cons_succ])
          refine held.take (i := 15) (v := .pointer (some ⟨gb, 29, none⟩)) rfl (by kernel_rfl) (by kernel_rfl) (by kernel_rfl) (fun _ _ _ h => h) (Or.inl ⟨by rfl, fun W hW => by (try dsimp only at hW); go_simp⟩) (by assumption) ?_
          (try simp only [Act.put, List.setIfInBounds_toArray, List.set_cons_zero, List.set_cons_succ])
          refine held.only (i := 16) (by kernel_rfl) rfl (fun K hK => ?_)
          go_simp
          have hT12 := hT11.then_only (Only.cell w11 gb 29 (.slice A9 (ts.length + 1) c9)) (.inl (.inl rfl))
          refine hK.out _ _ (by (try dsimp only); first | assumption | exact HTd.out) (fun hHeld => ?_)
          clear hK K
          (try simp only [Act.put, List.setIfInBounds_toArray, List.set_cons_zero, List.set_cons_succ])
          refine wpAnyH_done (by kernel_rfl) ?_ _
          refine NoPanic.normal ?_
          go_wp2
          go_ret
          exact HE.out _ _ _ _ _ _ _ _ _ _ hB6 hM6.out hO7 hA7 hL8.out hB8.out hO9 hBa hown hgrow hwh
      · go_wp2_with (first
          | (go_at_call 36; (with_reducible refine HPc.out.mono ?_); rintro e w6p ⟨rfl, rfl⟩)
          | (refine wpList_loadV rfl 53 _ rfl undM infM _ 0 rfl _ (moL_len _ _) (At.whole hA6) ?_)
          | (refine wpList_storeCo rfl (.tmp 37) (.tmp 35) rfl (HCo.out _ hB6) (some ⟨tb', 0, none⟩) m' rfl rfl ?_; intro w7 hA7 hO7; have hX7 := KY.out _ _ hB6 hO7; obtain ⟨y0, y1, y2⟩ := three_at hX7)
          | (go_at_call 38; (with_reducible refine (KCl.out _ _ hB6 hO7).mono ?_); rintro e w8 ⟨A', c', rfl, hL8, hB8⟩; have hX8 := At.same hX7 (hB8.out.block _ hX7.lt); have z2 := hX8.cell 2; have f2 := hX8.frozen 2)
          | fail "NONE")
        obtain ⟨w9, hw9⟩ : ∃ w9, w8.setCell ⟨w.heap.size, 2, none⟩ (.slice A' ins.length c') = w9 := ⟨_, rfl⟩
        rw [hw9]
        have hO9 : Only w.heap.size w8 w9 := hw9 ▸ Only.cell _ _ _ _
        have hX9 : At w9 w.heap.size 24 #[.int .i64 a, .int .i64 d, .slice A' ins.length c'] := hw9 ▸ At.set hX8 2 (.slice A' ins.length c')
        obtain ⟨hG9, hOwn9⟩ := KG.out _ _ _ _ hB6 hO7 hB8.out hO9
        have hn9 := HNN.out _ _ _ _ hB6 hO7 hB8.out hO9
        have g29 := (ch_cells hG9).2
        have hC9 := hA7.same ((hO9.block cb ncx).trans (hB8.out.block cb hA7.lt))
        have c29' := (co_cells hC9).2.2.2.1
        obtain ⟨q0, q1, q2⟩ := three_at hX9
        have hTd : Turned (fun b => b = gb ∨ sl.ownBlock = some b) w9 w9.drew := Turned.of_below (below_drew (Below.refl _ _)) _
        have KS9 : Hid (∀ W, Turned (fun b => b = gb ∨ sl.ownBlock = some b) w9 W → W.cell? ⟨cb, 29, none⟩ = some (.pointer (some ⟨gb, 0, none⟩)) ∧ W.cell? ⟨w.heap.size, 0, none⟩ = some (.int .i64 a) ∧ W.cell? ⟨w.heap.size, 1, none⟩ = some (.int .i64 d) ∧ W.cell? ⟨w.heap.size, 2, none⟩ = some (.slice A' ins.length c')) := Lib.hid fun W hW => ⟨(co_cells (hW.at hC9 (fun h => h.elim ncg nco))).2.2.2.1, three_at (hW.at hX9 (fun h => h.elim (fun e => ngx e.symm) nox))⟩
        have hGd := Turned.at (Turned.of_below (below_drew (Below.refl w9.heap.size w9)) (fun _ => False)) hG9 (fun h => h)
        have hWd := own_keep hOwn9 (below_drew (Below.refl w9.heap.size w9))
        have g29d := (ch_cells hGd).2
        have HTd := Lib.hid hTd
        have HG9 := Lib.hid hG9
        have HW9 := Lib.hid hOwn9
        have HN9 := Lib.hid hn9
        have HNGO := Lib.hid ngo
        clear hw9 hX9 hG9 hOwn9 hC9 hX8 hX7 y0 y1 y2 z2 f2 hn9 ngo c29 hTd hGd hWd g29 c29' q0 q1 q2
        refine wp_region_noPanic ?_
        refine wp_region_held_drew (S := fun W => Turned (fun b => b = gb ∨ sl.ownBlock = some b) w9 W) (by kernel_rfl) (by (try dsimp only); first | assumption | exact HTd.out) (fun hHeld => ?_)
        refine held.take (i := 0) (v := .pointer (some ⟨cb, 0, none⟩)) rfl (by kernel_rfl) (by kernel_rfl) (by kernel_rfl) (fun _ _ _ h => h) (Or.inl ⟨by rfl, fun W hW => by (try dsimp only at hW); go_simp⟩) (by assumption) ?_
        (try simp only [Act.put, List.setIfInBounds_toArray, List.set_cons_zero, List.set_cons_succ])
        refine held.take (i := 1) (v := .pointer (some ⟨cb, 0, none⟩)) rfl (by kernel_rfl) (by kernel_rfl) (by kernel_rfl) (fun _ _ _ h => h) (Or.inl ⟨by rfl, fun W hW => by (try dsimp only at hW); go_simp⟩) (by assumption) ?_
        (try simp only [Act.put, List.setIfInBounds_toArray, List.set_cons_zero, List.set_cons_succ])
        refine held.take (i := 2) (v := .pointer (some ⟨cb, 29, none⟩)) rfl (by kernel_rfl) (by kernel_rfl) (by kernel_rfl) (fun _ _ _ h => h) (Or.inl ⟨by rfl, fun W hW => by (try dsimp only at hW); go_simp⟩) (by assumption) ?_
        (try simp only [Act.put, List.setIfInBounds_toArray, List.set_cons_zero, List.set_cons_succ])
        refine held.take (i := 3) (v := .pointer (some ⟨gb, 0, none⟩)) rfl (by kernel_rfl) (by kernel_rfl) (by kernel_rfl) (fun _ _ _ h => h) (Or.inl ⟨by rfl, fun W hW => by (try dsimp only at hW); have c29 := (KS9.out W hW).1; go_simp⟩) (by assumption) ?_
        (try simp only [Act.put, List.setIfInBounds_toArray, List.set_cons_zero, List.set_cons_succ])
        refine held.take (i := 4) (v := .pointer (some ⟨cb, 0, none⟩)) rfl (by kernel_rfl) (by kernel_rfl) (by kernel_rfl) (fun _ _ _ h => h) (Or.inl ⟨by rfl, fun W hW => by (try dsimp only at hW); go_simp⟩) (by assumption) ?_
        (try simp only [Act.put, List.setIfInBounds_toArray, List.set_cons_zero, List.set_cons_succ])
        refine held.take (i := 5) (v := .pointer (some ⟨cb, 0, none⟩)) rfl (by kernel_rfl) (by kernel_rfl) (by kernel_rfl) (fun _ _ _ h => h) (Or.inl ⟨by rfl, fun W hW => by (try dsimp only at hW); go_simp⟩) (by assumption) ?_
        (try simp only [Act.put, List.setIfInBounds_toArray, List.set_cons_zero, List.set_cons_succ])
        refine held.take (i := 6) (v := .pointer (some ⟨cb, 29, none⟩)) rfl (by kernel_rfl) (by kernel_rfl) (by kernel_rfl) (fun _ _ _ h => h) (Or.inl ⟨by rfl, fun W hW => by (try dsimp only at hW); go_simp⟩) (by assumption) ?_
        (try simp only [Act.put, List.setIfInBounds_toArray, List.set_cons_zero, List.set_cons_succ])
        refine held.take (i := 7) (v := .pointer (some ⟨gb, 0, none⟩)) rfl (by kernel_rfl) (by kernel_rfl) (by kernel_rfl) (fun _ _ _ h => h) (Or.inl ⟨by rfl, fun W hW => by (try dsimp only at hW); have c29 := (KS9.out W hW).1; go_simp⟩) (by assumption) ?_
        (try simp only [Act.put, List.setIfInBounds_toArray, List.set_cons_zero, List.set_cons_succ])
        refine held.take (i := 8) (v := .pointer (some ⟨gb, 0, none⟩)) rfl (by kernel_rfl) (by kernel_rfl) (by kernel_rfl) (fun _ _ _ h => h) (Or.inl ⟨by rfl, fun W hW => by (try dsimp only at hW); go_simp⟩) (by assumption) ?_
        (try simp only [Act.put, List.setIfInBounds_toArray, List.set_cons_zero, List.set_cons_succ])
        refine held.take (i := 9) (v := .pointer (some ⟨gb, 29, none⟩)) rfl (by kernel_rfl) (by kernel_rfl) (by kernel_rfl) (fun _ _ _ h => h) (Or.inl ⟨by rfl, fun W hW => by (try dsimp only at hW); go_simp⟩) (by assumption) ?_
        (try simp only [Act.put, List.setIfInBounds_toArray, List.set_cons_zero, List.set_cons_succ])
        refine held.take (i := 11) (v := .agg #[.int .i64 a, .int .i64 d, .slice A' ins.length c']) rfl (by kernel_rfl) (by kernel_rfl) (by kernel_rfl) (fun _ _ _ h => h) (Or.inl ⟨by rfl, fun W hW => by (try dsimp only at hW); obtain ⟨_, x0, x1, x2⟩ := KS9.out W hW; go_simp⟩) (by assumption) ?_
        (try simp only [Act.put, List.setIfInBounds_toArray, List.set_cons_zero, List.set_cons_succ])
        refine held_two (i := 10) (j := 12) (by kernel_rfl) rfl rfl (fun K hK => ?_) (fun K hK => ?_)
        · skip
          go_simp
          refine hK.out _ _ (by (try dsimp only); first | assumption | exact HTd.out) (fun hHeld => ?_)
          clear hK K
          (try simp only [Act.put, List.setIfInBounds_toArray, List.set_cons_zero, List.set_cons_succ])
          refine held.only (i := 12) (by kernel_rfl) rfl (fun K hK => ?_)
          go_simp
          obtain ⟨wa, hwa⟩ : ∃ wa, (World.alloc w9 (.cells #[.int .i64 a, .int .i64 d, .slice A' ins.length c'] 24)).drew = wa := ⟨_, rfl⟩
          rw [hwa]
          have hBa : Below w9.heap.size w9 wa := hwa ▸ below_drew ((Below.refl _ _).alloc (Nat.le_refl _) _)
          have hTa : Turned (fun b => b = gb ∨ sl.ownBlock = some b) w9 wa := Turned.of_below hBa _
          have hGa := HG9.out.same (hBa.block gb HG9.out.lt)
          have hWa := own_keep HW9.out hBa
          have hAa : At wa w9.heap.size 24 #[.int .i64 a, .int .i64 d, .slice A' ins.length c'] := hwa ▸ (show At (World.alloc w9 (.cells #[.int .i64 a, .int .i64 d, .slice A' ins.length c'] 24)).drew w9.heap.size _ _ from At.new w9 _ _)
          have hna : n ≤ wa.heap.size := Nat.le_trans HN9.out hBa.size
          have g29a := (ch_cells hGa).2
          clear hwa
          refine hK.out _ _ (by (try dsimp only); first | assumption | exact HTd.out) (fun hHeld => ?_)
          clear hK K
          (try simp only [Act.put, List.setIfInBounds_toArray, List.set_cons_zero, List.set_cons_succ])
          refine held.only (i := 13) (by kernel_rfl) rfl (fun K hK => ?_)
          refine step_of rfl (wp_append_at _ (.tmp 52) (.tmp 54) 31 rfl n 24 i0 _ 3 40 Try.underlying31 hi0 hz00 hz01 hz02 rfl (by decide) sl ts.length (flat ts) rfl hWa ⟨w9.heap.size, 0, none⟩ 1 1 [.int .i64 a, .int .i64 d, .slice A' ins.length c'] rfl rfl (at_cells hAa) (by simp [Value.oneCell']) (by unfold maxLen; omega) (by omega) hna ?_)
          intro v' w11 hown hgrow hwh
          obtain ⟨A9, c9, rfl⟩ := own_slice hown
          have hG11 := hGa.same (hgrow.block gb hGa.lt (fun e => HNGO.out e.symm))
          have hT11 := hTa.grown hgrow (fun k e => .inl (.inr e))
          have c11 := (ch_cells hG11).2
          have f11 := hG11.frozen 29
          refine hK.out _ _ (by (try dsimp only); first | assumption | exact HTd.out) (fun hHeld => ?_)
          clear hK K
          (try simp only [Act.put, List.setIfInBounds_toArray, List.set_cons_zero, List.set_cons_succ])
          refine held.take (i := 14) (v := .pointer (some ⟨gb, 0, none⟩)) rfl (by kernel_rfl) (by kernel_rfl) (by kernel_rfl) (fun _ _ _ h => h) (Or.inl ⟨by rfl, fun W hW => by (try dsimp only at hW); go_simp⟩) (by assumption) ?_
          (try simp only [Act.put, List.setIfInBounds_toArray, List.set_cons_zero, List.set_cons_succ])
          refine held.take (i := 15) (v := .pointer (some ⟨gb, 29, none⟩)) rfl (by kernel_rfl) (by kernel_rfl) (by kernel_rfl) (fun _ _ _ h => h) (Or.inl ⟨by rfl, fun W hW => by (try dsimp only at hW); go_simp⟩) (by assumption) ?_
          (try simp only [Act.put, List.setIfInBounds_toArray, List.set_cons_zero, List.set_cons_succ])
          refine held.only (i := 16) (by kernel_rfl) rfl (fun K hK => ?_)
          go_simp
          have hT12 := hT11.then_only (Only.cell w11 gb 29 (.slice A9 (ts.length + 1) c9)) (.inl (.inl rfl))
          refine hK.out _ _ (by (try dsimp only); first | assumption | exact HTd.out) (fun hHeld => ?_)
          clear hK K
          (try simp only [Act.put, List.setIfInBounds_toArray, List.set_cons_zero, List.set_cons_succ])
          refine wpAnyH_done (by kernel_rfl) ?_ _
          refine NoPanic.normal ?_
          go_wp2
          go_ret
          exact HE.out _ _ _ _ _ _ _ _ _ _ hB6 hM6.out hO7 hA7 hL8.out hB8.out hO9 hBa hown hgrow hwh
        · skip
          go_simp
          obtain ⟨wa, hwa⟩ : ∃ wa, (World.alloc w9 (.cells #[.int .i64 a, .int .i64 d, .slice A' ins.length c'] 24)).drew = wa := ⟨_, rfl⟩
          rw [hwa]
          have hBa : Below w9.heap.size w9 wa := hwa ▸ below_drew ((Below.refl _ _).alloc (Nat.le_refl _) _)
          have hTa : Turned (fun b => b = gb ∨ sl.ownBlock = some b) w9 wa := Turned.of_below hBa _
          have hGa := HG9.out.same (hBa.block gb HG9.out.lt)
          have hWa := own_keep HW9.out hBa
          have hAa : At wa w9.heap.size 24 #[.int .i64 a, .int .i64 d, .slice A' ins.length c'] := hwa ▸ (show At (World.alloc w9 (.cells #[.int .i64 a, .int .i64 d, .slice A' ins.length c'] 24)).drew w9.heap.size _ _ from At.new w9 _ _)
          have hna : n ≤ wa.heap.size := Nat.le_trans HN9.out hBa.size
          have g29a := (ch_cells hGa).2
          clear hwa
          refine hK.out _ _ (by (try dsimp only); first | assumption | exact HTd.out) (fun hHeld => ?_)
          clear hK K
          (try simp only [Act.put, List.setIfInBounds_toArray, List.set_cons_zero, List.set_cons_succ])
          refine held.only (i := 10) (by kernel_rfl) rfl (fun K hK => ?_)
          go_simp
          refine hK.out _ _ (by (try dsimp only); first | assumption | exact HTd.out) (fun hHeld => ?_)
          clear hK K
          (try simp only [Act.put, List.setIfInBounds_toArray, List.set_cons_zero, List.set_cons_succ])
          refine held.only (i := 13) (by kernel_rfl) rfl (fun K hK => ?_)
          refine step_of rfl (wp_append_at _ (.tmp 52) (.tmp 54) 31 rfl n 24 i0 _ 3 40 Try.underlying31 hi0 hz00 hz01 hz02 rfl (by decide) sl ts.length (flat ts) rfl hWa ⟨w9.heap.size, 0, none⟩ 1 1 [.int .i64 a, .int .i64 d, .slice A' ins.length c'] rfl rfl (at_cells hAa) (by simp [Value.oneCell']) (by unfold maxLen; omega) (by omega) hna ?_)
          intro v' w11 hown hgrow hwh
          obtain ⟨A9, c9, rfl⟩ := own_slice hown
          have hG11 := hGa.same (hgrow.block gb hGa.lt (fun e => HNGO.out e.symm))
          have hT11 := hTa.grown hgrow (fun k e => .inl (.inr e))
          have c11 := (ch_cells hG11).2
          have f11 := hG11.frozen 29
          refine hK.out _ _ (by (try dsimp only); first | assumption | exact HTd.out) (fun hHeld => ?_)
          clear hK K
          (try simp only [Act.put, List.setIfInBounds_toArray, List.set_cons_zero, List.set_cons_succ])
          refine held.take (i := 14) (v := .pointer (some ⟨gb, 0, none⟩)) rfl (by kernel_rfl) (by kernel_rfl) (by kernel_rfl) (fun _ _ _ h => h) (Or.inl ⟨by rfl, fun W hW => by (try dsimp only at hW); go_simp⟩) (by assumption) ?_
          (try simp only [Act.put, List.setIfInBounds_toArray, List.set_cons_zero, List.set_cons_succ])
          refine held.take (i := 15) (v := .pointer (some ⟨gb, 29, none⟩)) rfl (by kernel_rfl) (by kernel_rfl) (by kernel_rfl) (fun _ _ _ h => h) (Or.inl ⟨by rfl, fun W hW => by (try dsimp only at hW); go_simp⟩) (by assumption) ?_
          (try simp only [Act.put, List.setIfInBounds_toArray, List.set_cons_zero, List.set_cons_succ])
          refine held.only (i := 16) (by kernel_rfl) rfl (fun K hK => ?_)
          go_simp
          have hT12 := hT11.then_only (Only.cell w11 gb 29 (.slice A9 (ts.length + 1) c9)) (.inl (.inl rfl))
          refine hK.out _ _ (by (try dsimp only); first | assumption | exact HTd.out) (fun hHeld => ?_)
          clear hK K
          (try simp only [Act.put, List.setIfInBounds_toArray, List.set_cons_zero, List.set_cons_succ])
          refine wpAnyH_done (by kernel_rfl) ?_ _
          refine NoPanic.normal ?_
          go_wp2
          go_ret
          exact HE.out _ _ _ _ _ _ _ _ _ _ hB6 hM6.out hO7 hA7 hL8.out hB8.out hO9 hBa hown hgrow hwh
    · skip
      refine step_of rfl (wp_allocV 53 rfl (moL (.pointer none) zeroM).toArray (zerM _) ?_)
      obtain ⟨w5, hw5⟩ : ∃ w5, World.alloc w1.drew (.cells (moL (.pointer none) zeroM).toArray 53) = w5 := ⟨_, rfl⟩
      rw [hw5]
      have hB45 : Below (World.heap w1.drew).size w1.drew w5 := hw5 ▸ (Below.refl _ _).alloc (Nat.le_refl _) _
      have hA5 : At w5 (World.heap w1.drew).size 53 (moL (.pointer none) zeroM).toArray := hw5 ▸ At.new _ _ _
      have hl5 : w1.heap.size ≤ (World.heap w1.drew).size := (Below.size hHeld)
      have hB5 := KU.out _ w5 hHeld hB45
      clear hw5
      refine hK.out _ _ (by (try dsimp only); first | assumption | exact KR.out) (fun hHeld => ?_)
      clear hK K
      (try simp only [Act.put, List.setIfInBounds_toArray, List.set_cons_zero, List.set_cons_succ])
      refine held.only (i := 5) (by kernel_rfl) rfl (fun K hK => ?_)
      go_simp
      go_at_call 35
      (with_reducible refine (KB2.out _ (fun b => b = (World.heap w1.drew).size) hHeld (fun b hb => ⟨hb ▸ hl5, hb ▸ hA5.lt⟩)).mono ?_)
      rintro e w4 ⟨tb', rfl, hM4, hB4'⟩
      have hB4 := KU.out _ w4 hHeld hB4'
      have hA5 := At.same hA5 (hB4'.block _ hA5.lt)
      refine hK.out _ _ (by (try dsimp only); first | assumption | exact KR.out) (fun hHeld => ?_)
      clear hK K
      (try simp only [Act.put, List.setIfInBounds_toArray, List.set_cons_zero, List.set_cons_succ])
      refine held.take (i := 6) (v := .tuple #[.agg (moL (.pointer (some ⟨tb', 0, none⟩)) m').toArray, .int .i64 0]) rfl (by kernel_rfl) (by kernel_rfl) (by kernel_rfl) (fun _ _ _ h => h) (Or.inl ⟨by rfl, fun W hW => by (try dsimp only at hW); go_simp⟩) (by assumption) ?_
      (try simp only [Act.put, List.setIfInBounds_toArray, List.set_cons_zero, List.set_cons_succ])
      refine held.take (i := 7) (v := .agg (moL (.pointer (some ⟨tb', 0, none⟩)) m').toArray) rfl (by kernel_rfl) (by kernel_rfl) (by kernel_rfl) (fun _ _ _ h => h) (Or.inl ⟨by rfl, fun W hW => by (try dsimp only at hW); go_simp⟩) (by assumption) ?_
      (try simp only [Act.put, List.setIfInBounds_toArray, List.set_cons_zero, List.set_cons_succ])
      refine held.take (i := 8) (v := .int .i64 0) rfl (by kernel_rfl) (by kernel_rfl) (by kernel_rfl) (fun _ _ _ h => h) (Or.inl ⟨by rfl, fun W hW => by (try dsimp only at hW); go_simp⟩) (by assumption) ?_
      (try simp only [Act.put, List.setIfInBounds_toArray, List.set_cons_zero, List.set_cons_succ])
      refine held.only (i := 10) (by kernel_rfl) rfl (fun K hK => ?_)
      refine step_of rfl (wp_storeMo (.tmp 5) (.tmp 21) rfl _ _ _ hA5 (some ⟨tb', 0, none⟩) m' rfl rfl ?_)
      intro w6 hA6 hO6
      have hB6 := hHeld.trans (hO6.below hl5)
      have hM6 := Lib.hid (KMB.out _ _ _ _ hM4.out hO6)
      refine hK.out _ _ (by (try dsimp only); first | assumption | exact KR.out) (fun hHeld => ?_)
      clear hK K
      (try simp only [Act.put, List.setIfInBounds_toArray, List.set_cons_zero, List.set_cons_succ])
      refine held.take (i := 11) (v := .int .i64 0) rfl (by kernel_rfl) (by kernel_rfl) (by kernel_rfl) (fun _ _ _ h => h) (Or.inl ⟨by rfl, fun W hW => by (try dsimp only at hW); go_simp⟩) (by assumption) ?_
      (try simp only [Act.put, List.setIfInBounds_toArray, List.set_cons_zero, List.set_cons_succ])
      refine wpAnyH_done (by kernel_rfl) ?_ _
      refine NoPanic.normal ?_
      have hA6 : At w6 w1.heap.size 53 (moL (.pointer (some ⟨tb', 0, none⟩)) m').toArray := hA6
      have hl5 : w1.heap.size ≤ w1.heap.size := hl5
      clear hA5
      obtain ⟨q, hPc⟩ := KPc.out _ _ hM6.out
      have cm6 := (mo_cells hA6).1
      have HPc := Lib.hid hPc
      clear hPc
      by_cases hq64 : (64 : Int) < (q : Int)
      · go_wp2_with (first
          | (go_at_call 36; (with_reducible refine HPc.out.mono ?_); rintro e w6p ⟨rfl, rfl⟩)
          | (go_at_call 37; (with_reducible refine (KCp.out _ _ _ hB6 hl5 hA6 hM6.out).mono ?_); rintro e w6b ⟨tb', rfl, ⟨d0, f0⟩, h7⟩; obtain ⟨hB6, hA6, hM6⟩ := h7.out _ rfl)
          | (refine wpList_loadV rfl 53 _ rfl undM infM _ 0 rfl _ (moL_len _ _) (At.whole hA6) ?_)
          | (refine wpList_storeCo rfl (.tmp 37) (.tmp 35) rfl (HCo.out _ hB6) (some ⟨tb', 0, none⟩) m' rfl rfl ?_; intro w7 hA7 hO7; have hX7 := KY.out _ _ hB6 hO7; obtain ⟨y0, y1, y2⟩ := three_at hX7)
          | (go_at_call 38; (with_reducible refine (KCl.out _ _ hB6 hO7).mono ?_); rintro e w8 ⟨A', c', rfl, hL8, hB8⟩; have hX8 := At.same hX7 (hB8.out.block _ hX7.lt); have z2 := hX8.cell 2; have f2 := hX8.frozen 2)
          | fail "NONE")
        obtain ⟨w9, hw9⟩ : ∃ w9, w8.setCell ⟨w.heap.size, 2, none⟩ (.slice A' ins.length c') = w9 := ⟨_, rfl⟩
        rw [hw9]
        have hO9 : Only w.heap.size w8 w9 := hw9 ▸ Only.cell _ _ _ _
        have hX9 : At w9 w.heap.size 24 #[.int .i64 a, .int .i64 d, .slice A' ins.length c'] := hw9 ▸ At.set hX8 2 (.slice A' ins.length c')
        obtain ⟨hG9, hOwn9⟩ := KG.out _ _ _ _ hB6 hO7 hB8.out hO9
        have hn9 := HNN.out _ _ _ _ hB6 hO7 hB8.out hO9
        have g29 := (ch_cells hG9).2
        have hC9 := hA7.same ((hO9.block cb ncx).trans (hB8.out.block cb hA7.lt))
        have c29' := (co_cells hC9).2.2.2.1
        obtain ⟨q0, q1, q2⟩ := three_at hX9
        have hTd : Turned (fun b => b = gb ∨ sl.ownBlock = some b) w9 w9.drew := Turned.of_below (below_drew (Below.refl _ _)) _
        have KS9 : Hid (∀ W, Turned (fun b => b = gb ∨ sl.ownBlock = some b) w9 W → W.cell? ⟨cb, 29, none⟩ = some (.pointer (some ⟨gb, 0, none⟩)) ∧ W.cell? ⟨w.heap.size, 0, none⟩ = some (.int .i64 a) ∧ W.cell? ⟨w.heap.size, 1, none⟩ = some (.int .i64 d) ∧ W.cell? ⟨w.heap.size, 2, none⟩ = some (.slice A' ins.length c')) := Lib.hid fun W hW => ⟨(co_cells (hW.at hC9 (fun h => h.elim ncg nco))).2.2.2.1, three_at (hW.at hX9 (fun h => h.elim (fun e => ngx e.symm) nox))⟩
        have hGd := Turned.at (Turned.of_below (below_drew (Below.refl w9.heap.size w9)) (fun _ => False)) hG9 (fun h => h)
        have hWd := own_keep hOwn9 (below_drew (Below.refl w9.heap.size w9))
        have g29d := (ch_cells hGd).2
        have HTd := Lib.hid hTd
        have HG9 := Lib.hid hG9
        have HW9 := Lib.hid hOwn9
        have HN9 := Lib.hid hn9
        have HNGO := Lib.hid ngo
        clear hw9 hX9 hG9 hOwn9 hC9 hX8 hX7 y0 y1 y2 z2 f2 hn9 ngo c29 hTd hGd hWd g29 c29' q0 q1 q2
        refine wp_region_noPanic ?_
        refine wp_region_held_drew (S := fun W => Turned (fun b => b = gb ∨ sl.ownBlock = some b) w9 W) (by kernel_rfl) (by (try dsimp only); first | assumption | exact HTd.out) (fun hHeld => ?_)
        refine held.take (i := 0) (v := .pointer (some ⟨cb, 0, none⟩)) rfl (by kernel_rfl) (by kernel_rfl) (by kernel_rfl) (fun _ _ _ h => h) (Or.inl ⟨by rfl, fun W hW => by (try dsimp only at hW); go_simp⟩) (by assumption) ?_
        (try simp only [Act.put, List.setIfInBounds_toArray, List.set_cons_zero, List.set_cons_succ])
        refine held.take (i := 1) (v := .pointer (some ⟨cb, 0, none⟩)) rfl (by kernel_rfl) (by kernel_rfl) (by kernel_rfl) (fun _ _ _ h => h) (Or.inl ⟨by rfl, fun W hW => by (try dsimp only at hW); go_simp⟩) (by assumption) ?_
        (try simp only [Act.put, List.setIfInBounds_toArray, List.set_cons_zero, List.set_cons_succ])
        refine held.take (i := 2) (v := .pointer (some ⟨cb, 29, none⟩)) rfl (by kernel_rfl) (by kernel_rfl) (by kernel_rfl) (fun _ _ _ h => h) (Or.inl ⟨by rfl, fun W hW => by (try dsimp only at hW); go_simp⟩) (by assumption) ?_
        (try simp only [Act.put, List.setIfInBounds_toArray, List.set_cons_zero, List.set_cons_succ])
        refine held.take (i := 3) (v := .pointer (some ⟨gb, 0, none⟩)) rfl (by kernel_rfl) (by kernel_rfl) (by kernel_rfl) (fun _ _ _ h => h) (Or.inl ⟨by rfl, fun W hW => by (try dsimp only at hW); have c29 := (KS9.out W hW).1; go_simp⟩) (by assumption) ?_
        (try simp only [Act.put, List.setIfInBounds_toArray, List.set_cons_zero, List.set_cons_succ])
        refine held.take (i := 4) (v := .pointer (some ⟨cb, 0, none⟩)) rfl (by kernel_rfl) (by kernel_rfl) (by kernel_rfl) (fun _ _ _ h => h) (Or.inl ⟨by rfl, fun W hW => by (try dsimp only at hW); go_simp⟩) (by assumption) ?_
        (try simp only [Act.put, List.setIfInBounds_toArray, List.set_cons_zero, List.set_cons_succ])
        refine held.take (i := 5) (v := .pointer (some ⟨cb, 0, none⟩)) rfl (by kernel_rfl) (by kernel_rfl) (by kernel_rfl) (fun _ _ _ h => h) (Or.inl ⟨by rfl, fun W hW => by (try dsimp only at hW); go_simp⟩) (by assumption) ?_
        (try simp only [Act.put, List.setIfInBounds_toArray, List.set_cons_zero, List.set_cons_succ])
        refine held.take (i := 6) (v := .pointer (some ⟨cb, 29, none⟩)) rfl (by kernel_rfl) (by kernel_rfl) (by kernel_rfl) (fun _ _ _ h => h) (Or.inl ⟨by rfl, fun W hW => by (try dsimp only at hW); go_simp⟩) (by assumption) ?_
        (try simp only [Act.put, List.setIfInBounds_toArray, List.set_cons_zero, List.set_cons_succ])
        refine held.take (i := 7) (v := .pointer (some ⟨gb, 0, none⟩)) rfl (by kernel_rfl) (by kernel_rfl) (by kernel_rfl) (fun _ _ _ h => h) (Or.inl ⟨by rfl, fun W hW => by (try dsimp only at hW); have c29 := (KS9.out W hW).1; go_simp⟩) (by assumption) ?_
        (try simp only [Act.put, List.setIfInBounds_toArray, List.set_cons_zero, List.set_cons_succ])
        refine held.take (i := 8) (v := .pointer (some ⟨gb, 0, none⟩)) rfl (by kernel_rfl) (by kernel_rfl) (by kernel_rfl) (fun _ _ _ h => h) (Or.inl ⟨by rfl, fun W hW => by (try dsimp only at hW); go_simp⟩) (by assumption) ?_
        (try simp only [Act.put, List.setIfInBounds_toArray, List.set_cons_zero, List.set_cons_succ])
        refine held.take (i := 9) (v := .pointer (some ⟨gb, 29, none⟩)) rfl (by kernel_rfl) (by kernel_rfl) (by kernel_rfl) (fun _ _ _ h => h) (Or.inl ⟨by rfl, fun W hW => by (try dsimp only at hW); go_simp⟩) (by assumption) ?_
        (try simp only [Act.put, List.setIfInBounds_toArray, List.set_cons_zero, List.set_cons_succ])
        refine held.take (i := 11) (v := .agg #[.int .i64 a, .int .i64 d, .slice A' ins.length c']) rfl (by kernel_rfl) (by kernel_rfl) (by kernel_rfl) (fun _ _ _ h => h) (Or.inl ⟨by rfl, fun W hW => by (try dsimp only at hW); obtain ⟨_, x0, x1, x2⟩ := KS9.out W hW; go_simp⟩) (by assumption) ?_
        (try simp only [Act.put, List.setIfInBounds_toArray, List.set_cons_zero, List.set_cons_succ])
        refine held_two (i := 10) (j := 12) (by kernel_rfl) rfl rfl (fun K hK => ?_) (fun K hK => ?_)
        · skip
          go_simp
          refine hK.out _ _ (by (try dsimp only); first | assumption | exact HTd.out) (fun hHeld => ?_)
          clear hK K
          (try simp only [Act.put, List.setIfInBounds_toArray, List.set_cons_zero, List.set_cons_succ])
          refine held.only (i := 12) (by kernel_rfl) rfl (fun K hK => ?_)
          go_simp
          obtain ⟨wa, hwa⟩ : ∃ wa, (World.alloc w9 (.cells #[.int .i64 a, .int .i64 d, .slice A' ins.length c'] 24)).drew = wa := ⟨_, rfl⟩
          rw [hwa]
          have hBa : Below w9.heap.size w9 wa := hwa ▸ below_drew ((Below.refl _ _).alloc (Nat.le_refl _) _)
          have hTa : Turned (fun b => b = gb ∨ sl.ownBlock = some b) w9 wa := Turned.of_below hBa _
          have hGa := HG9.out.same (hBa.block gb HG9.out.lt)
          have hWa := own_keep HW9.out hBa
          have hAa : At wa w9.heap.size 24 #[.int .i64 a, .int .i64 d, .slice A' ins.length c'] := hwa ▸ (show At (World.alloc w9 (.cells #[.int .i64 a, .int .i64 d, .slice A' ins.length c'] 24)).drew w9.heap.size _ _ from At.new w9 _ _)
          have hna : n ≤ wa.heap.size := Nat.le_trans HN9.out hBa.size
          have g29a := (ch_cells hGa).2
          clear hwa
          refine hK.out _ _ (by (try dsimp only); first | assumption | exact HTd.out) (fun hHeld => ?_)
          clear hK K
          (try simp only [Act.put, List.setIfInBounds_toArray, List.set_cons_zero, List.set_cons_succ])
          refine held.only (i := 13) (by kernel_rfl) rfl (fun K hK => ?_)
          refine step_of rfl (wp_append_at _ (.tmp 52) (.tmp 54) 31 rfl n 24 i0 _ 3 40 Try.underlying31 hi0 hz00 hz01 hz02 rfl (by decide) sl ts.length (flat ts) rfl hWa ⟨w9.heap.size, 0, none⟩ 1 1 [.int .i64 a, .int .i64 d, .slice A' ins.length c'] rfl rfl (at_cells hAa) (by simp [Value.oneCell']) (by unfold maxLen; omega) (by omega) hna ?_)
          intro v' w11 hown hgrow hwh
          obtain ⟨A9, c9, rfl⟩ := own_slice hown
          have hG11 := hGa.same (hgrow.block gb hGa.lt (fun e => HNGO.out e.symm))
          have hT11 := hTa.grown hgrow (fun k e => .inl (.inr e))
          have c11 := (ch_cells hG11).2
          have f11 := hG11.frozen 29
          refine hK.out _ _ (by (try dsimp only); first | assumption | exact HTd.out) (fun hHeld => ?_)
          clear hK K
          (try simp only [Act.put, List.setIfInBounds_toArray, List.set_cons_zero, List.set_cons_succ])
          refine held.take (i := 14) (v := .pointer (some ⟨gb, 0, none⟩)) rfl (by kernel_rfl) (by kernel_rfl) (by kernel_rfl) (fun _ _ _ h => h) (Or.inl ⟨by rfl, fun W hW => by (try dsimp only at hW); go_simp⟩) (by assumption) ?_
          (try simp only [Act.put, List.setIfInBounds_toArray, List.set_cons_zero, List.set_cons_succ])
          refine held.take (i := 15) (v := .pointer (some ⟨gb, 29, none⟩)) rfl (by kernel_rfl) (by kernel_rfl) (by kernel_rfl) (fun _ _ _ h => h) (Or.inl ⟨by rfl, fun W hW => by (try dsimp only at hW); go_simp⟩) (by assumption) ?_
          (try simp only [Act.put, List.setIfInBounds_toArray, List.set_cons_zero, List.set_cons_succ])
          refine held.only (i := 16) (by kernel_rfl) rfl (fun K hK => ?_)
          go_simp
          have hT12 := hT11.then_only (Only.cell w11 gb 29 (.slice A9 (ts.length + 1) c9)) (.inl (.inl rfl))
          refine hK.out _ _ (by (try dsimp only); first | assumption | exact HTd.out) (fun hHeld => ?_)
          clear hK K
          (try simp only [Act.put, List.setIfInBounds_toArray, List.set_cons_zero, List.set_cons_succ])
          refine wpAnyH_done (by kernel_rfl) ?_ _
          refine NoPanic.normal ?_
          go_wp2
          go_ret
          exact HE.out _ _ _ _ _ _ _ _ _ _ hB6 hM6.out hO7 hA7 hL8.out hB8.out hO9 hBa hown hgrow hwh
        · skip
          go_simp
          obtain ⟨wa, hwa⟩ : ∃ wa, (World.alloc w9 (.cells #[.int .i64 a, .int .i64 d, .slice A' ins.length c'] 24)).drew = wa := ⟨_, rfl⟩
          rw [hwa]
          have hBa : Below w9.heap.size w9 wa := hwa ▸ below_drew ((Below.refl _ _).alloc (Nat.le_refl _) _)
          have hTa : Turned (fun b => b = gb ∨ sl.ownBlock = some b) w9 wa := Turned.of_below hBa _
          have hGa := HG9.out.same (hBa.block gb HG9.out.lt)
          have hWa := own_keep HW9.out hBa
          have hAa : At wa w9.heap.size 24 #[.int .i64 a, .int .i64 d, .slice A' ins.length c'] := hwa ▸ (show At (World.alloc w9 (.cells #[.int .i64 a, .int .i64 d, .slice A' ins.length c'] 24)).drew w9.heap.size _ _ from At.new w9 _ _)
          have hna : n ≤ wa.heap.size := Nat.le_trans HN9.out hBa.size
          have g29a := (ch_cells hGa).2
          clear hwa
          refine hK.out _ _ (by (try dsimp only); first | assumption | exact HTd.out) (fun hHeld => ?_)
          clear hK K
          (try simp only [Act.put, List.setIfInBounds_toArray, List.set_cons_zero, List.set_cons_succ])
          refine held.only (i := 10) (by kernel_rfl) rfl (fun K hK => ?_)
          go_simp
          refine hK.out _ _ (by (try dsimp only); first | assumption | exact HTd.out) (fun hHeld => ?_)
          clear hK K
          (try simp only [Act.put, List.setIfInBounds_toArray, List.set_cons_zero, List.set_cons_succ])
          refine held.only (i := 13) (by kernel_rfl) rfl (fun K hK => ?_)
          refine step_of rfl (wp_append_at _ (.tmp 52) (.tmp 54) 31 rfl n 24 i0 _ 3 40 Try.underlying31 hi0 hz00 hz01 hz02 rfl (by decide) sl ts.length (flat ts) rfl hWa ⟨w9.heap.size, 0, none⟩ 1 1 [.int .i64 a, .int .i64 d, .slice A' ins.length c'] rfl rfl (at_cells hAa) (by simp [Value.oneCell']) (by unfold maxLen; omega) (by omega) hna ?_)
          intro v' w11 hown hgrow hwh
          obtain ⟨A9, c9, rfl⟩ := own_slice hown
          have hG11 := hGa.same (hgrow.block gb hGa.lt (fun e => HNGO.out e.symm))
          have hT11 := hTa.grown hgrow (fun k e => .inl (.inr e))
          have c11 := (ch_cells hG11).2
          have f11 := hG11.frozen 29
          refine hK.out _ _ (by (try dsimp only); first | assumption | exact HTd.out) (fun hHeld => ?_)
          clear hK K
          (try simp only [Act.put, List.setIfInBounds_toArray, List.set_cons_zero, List.set_cons_succ])
          refine held.take (i := 14) (v := .pointer (some ⟨gb, 0, none⟩)) rfl (by kernel_rfl) (by kernel_rfl) (by kernel_rfl) (fun _ _ _ h => h) (Or.inl ⟨by rfl, fun W hW => by (try dsimp only at hW); go_simp⟩) (by assumption) ?_
          (try simp only [Act.put, List.setIfInBounds_toArray, List.set_cons_zero, List.set_cons_succ])
          refine held.take (i := 15) (v := .pointer (some ⟨gb, 29, none⟩)) rfl (by kernel_rfl) (by kernel_rfl) (by kernel_rfl) (fun _ _ _ h => h) (Or.inl ⟨by rfl, fun W hW => by (try dsimp only at hW); go_simp⟩) (by assumption) ?_
          (try simp only [Act.put, List.setIfInBounds_toArray, List.set_cons_zero, List.set_cons_succ])
          refine held.only (i := 16) (by kernel_rfl) rfl (fun K hK => ?_)
          go_simp
          have hT12 := hT11.then_only (Only.cell w11 gb 29 (.slice A9 (ts.length + 1) c9)) (.inl (.inl rfl))
          refine hK.out _ _ (by (try dsimp only); first | assumption | exact HTd.out) (fun hHeld => ?_)
          clear hK K
          (try simp only [Act.put, List.setIfInBounds_toArray, List.set_cons_zero, List.set_cons_succ])
          refine wpAnyH_done (by kernel_rfl) ?_ _
          refine NoPanic.normal ?_
          go_wp2
          go_ret
          exact HE.out _ _ _ _ _ _ _ _ _ _ hB6 hM6.out hO7 hA7 hL8.out hB8.out hO9 hBa hown hgrow hwh
      · go_wp2_with (first
          | (go_at_call 36; (with_reducible refine HPc.out.mono ?_); rintro e w6p ⟨rfl, rfl⟩)
          | (refine wpList_loadV rfl 53 _ rfl undM infM _ 0 rfl _ (moL_len _ _) (At.whole hA6) ?_)
          | (refine wpList_storeCo rfl (.tmp 37) (.tmp 35) rfl (HCo.out _ hB6) (some ⟨tb', 0, none⟩) m' rfl rfl ?_; intro w7 hA7 hO7; have hX7 := KY.out _ _ hB6 hO7; obtain ⟨y0, y1, y2⟩ := three_at hX7)
          | (go_at_call 38; (with_reducible refine (KCl.out _ _ hB6 hO7).mono ?_); rintro e w8 ⟨A', c', rfl, hL8, hB8⟩; have hX8 := At.same hX7 (hB8.out.block _ hX7.lt); have z2 := hX8.cell 2; have f2 := hX8.frozen 2)
          | fail "NONE")
        obtain ⟨w9, hw9⟩ : ∃ w9, w8.setCell ⟨w.heap.size, 2, none⟩ (.slice A' ins.length c') = w9 := ⟨_, rfl⟩
        rw [hw9]
        have hO9 : Only w.heap.size w8 w9 := hw9 ▸ Only.cell _ _ _ _
        have hX9 : At w9 w.heap.size 24 #[.int .i64 a, .int .i64 d, .slice A' ins.length c'] := hw9 ▸ At.set hX8 2 (.slice A' ins.length c')
        obtain ⟨hG9, hOwn9⟩ := KG.out _ _ _ _ hB6 hO7 hB8.out hO9
        have hn9 := HNN.out _ _ _ _ hB6 hO7 hB8.out hO9
        have g29 := (ch_cells hG9).2
        have hC9 := hA7.same ((hO9.block cb ncx).trans (hB8.out.block cb hA7.lt))
        have c29' := (co_cells hC9).2.2.2.1
        obtain ⟨q0, q1, q2⟩ := three_at hX9
        have hTd : Turned (fun b => b = gb ∨ sl.ownBlock = some b) w9 w9.drew := Turned.of_below (below_drew (Below.refl _ _)) _
        have KS9 : Hid (∀ W, Turned (fun b => b = gb ∨ sl.ownBlock = some b) w9 W → W.cell? ⟨cb, 29, none⟩ = some (.pointer (some ⟨gb, 0, none⟩)) ∧ W.cell? ⟨w.heap.size, 0, none⟩ = some (.int .i64 a) ∧ W.cell? ⟨w.heap.size, 1, none⟩ = some (.int .i64 d) ∧ W.cell? ⟨w.heap.size, 2, none⟩ = some (.slice A' ins.length c')) := Lib.hid fun W hW => ⟨(co_cells (hW.at hC9 (fun h => h.elim ncg nco))).2.2.2.1, three_at (hW.at hX9 (fun h => h.elim (fun e => ngx e.symm) nox))⟩
        have hGd := Turned.at (Turned.of_below (below_drew (Below.refl w9.heap.size w9)) (fun _ => False)) hG9 (fun h => h)
        have hWd := own_keep hOwn9 (below_drew (Below.refl w9.heap.size w9))
        have g29d := (ch_cells hGd).2
        have HTd := Lib.hid hTd
        have HG9 := Lib.hid hG9
        have HW9 := Lib.hid hOwn9
        have HN9 := Lib.hid hn9
        have HNGO := Lib.hid ngo
        clear hw9 hX9 hG9 hOwn9 hC9 hX8 hX7 y0 y1 y2 z2 f2 hn9 ngo c29 hTd hGd hWd g29 c29' q0 q1 q2
        refine wp_region_noPanic ?_
        refine wp_region_held_drew (S := fun W => Turned (fun b => b = gb ∨ sl.ownBlock = some b) w9 W) (by kernel_rfl) (by (try dsimp only); first | assumption | exact HTd.out) (fun hHeld => ?_)
        refine held.take (i := 0) (v := .pointer (some ⟨cb, 0, none⟩)) rfl (by kernel_rfl) (by kernel_rfl) (by kernel_rfl) (fun _ _ _ h => h) (Or.inl ⟨by rfl, fun W hW => by (try dsimp only at hW); go_simp⟩) (by assumption) ?_
        (try simp only [Act.put, List.setIfInBounds_toArray, List.set_cons_zero, List.set_cons_succ])
        refine held.take (i := 1) (v := .pointer (some ⟨cb, 0, none⟩)) rfl (by kernel_rfl) (by kernel_rfl) (by kernel_rfl) (fun _ _ _ h => h) (Or.inl ⟨by rfl, fun W hW => by (try dsimp only at hW); go_simp⟩) (by assumption) ?_
        (try simp only [Act.put, List.setIfInBounds_toArray, List.set_cons_zero, List.set_cons_succ])
        refine held.take (i := 2) (v := .pointer (some ⟨cb, 29, none⟩)) rfl (by kernel_rfl) (by kernel_rfl) (by kernel_rfl) (fun _ _ _ h => h) (Or.inl ⟨by rfl, fun W hW => by (try dsimp only at hW); go_simp⟩) (by assumption) ?_
        (try simp only [Act.put, List.setIfInBounds_toArray, List.set_cons_zero, List.set_cons_succ])
        refine held.take (i := 3) (v := .pointer (some ⟨gb, 0, none⟩)) rfl (by kernel_rfl) (by kernel_rfl) (by kernel_rfl) (fun _ _ _ h => h) (Or.inl ⟨by rfl, fun W hW => by (try dsimp only at hW); have c29 := (KS9.out W hW).1; go_simp⟩) (by assumption) ?_
        (try simp only [Act.put, List.setIfInBounds_toArray, List.set_cons_zero, List.set_cons_succ])
        refine held.take (i := 4) (v := .pointer (some ⟨cb, 0, none⟩)) rfl (by kernel_rfl) (by kernel_rfl) (by kernel_rfl) (fun _ _ _ h => h) (Or.inl ⟨by rfl, fun W hW => by (try dsimp only at hW); go_simp⟩) (by assumption) ?_
        (try simp only [Act.put, List.setIfInBounds_toArray, List.set_cons_zero, List.set_cons_succ])
        refine held.take (i := 5) (v := .pointer (some ⟨cb, 0, none⟩)) rfl (by kernel_rfl) (by kernel_rfl) (by kernel_rfl) (fun _ _ _ h => h) (Or.inl ⟨by rfl, fun W hW => by (try dsimp only at hW); go_simp⟩) (by assumption) ?_
        (try simp only [Act.put, List.setIfInBounds_toArray, List.set_cons_zero, List.set_cons_succ])
        refine held.take (i := 6) (v := .pointer (some ⟨cb, 29, none⟩)) rfl (by kernel_rfl) (by kernel_rfl) (by kernel_rfl) (fun _ _ _ h => h) (Or.inl ⟨by rfl, fun W hW => by (try dsimp only at hW); go_simp⟩) (by assumption) ?_
        (try simp only [Act.put, List.setIfInBounds_toArray, List.set_cons_zero, List.set_cons_succ])
        refine held.take (i := 7) (v := .pointer (some ⟨gb, 0, none⟩)) rfl (by kernel_rfl) (by kernel_rfl) (by kernel_rfl) (fun _ _ _ h => h) (Or.inl ⟨by rfl, fun W hW => by (try dsimp only at hW); have c29 := (KS9.out W hW).1; go_simp⟩) (by assumption) ?_
        (try simp only [Act.put, List.setIfInBounds_toArray, List.set_cons_zero, List.set_cons_succ])
        refine held.take (i := 8) (v := .pointer (some ⟨gb, 0, none⟩)) rfl (by kernel_rfl) (by kernel_rfl) (by kernel_rfl) (fun _ _ _ h => h) (Or.inl ⟨by rfl, fun W hW => by (try dsimp only at hW); go_simp⟩) (by assumption) ?_
        (try simp only [Act.put, List.setIfInBounds_toArray, List.set_cons_zero, List.set_cons_succ])
        refine held.take (i := 9) (v := .pointer (some ⟨gb, 29, none⟩)) rfl (by kernel_rfl) (by kernel_rfl) (by kernel_rfl) (fun _ _ _ h => h) (Or.inl ⟨by rfl, fun W hW => by (try dsimp only at hW); go_simp⟩) (by assumption) ?_
        (try simp only [Act.put, List.setIfInBounds_toArray, List.set_cons_zero, List.set_cons_succ])
        refine held.take (i := 11) (v := .agg #[.int .i64 a, .int .i64 d, .slice A' ins.length c']) rfl (by kernel_rfl) (by kernel_rfl) (by kernel_rfl) (fun _ _ _ h => h) (Or.inl ⟨by rfl, fun W hW => by (try dsimp only at hW); obtain ⟨_, x0, x1, x2⟩ := KS9.out W hW; go_simp⟩) (by assumption) ?_
        (try simp only [Act.put, List.setIfInBounds_toArray, List.set_cons_zero, List.set_cons_succ])
        refine held_two (i := 10) (j := 12) (by kernel_rfl) rfl rfl (fun K hK => ?_) (fun K hK => ?_)
        · skip
          go_simp
          refine hK.out _ _ (by (try dsimp only); first | assumption | exact HTd.out) (fun hHeld => ?_)
          clear hK K
          (try simp only [Act.put, List.setIfInBounds_toArray, List.set_cons_zero, List.set_cons_succ])
          refine held.only (i := 12) (by kernel_rfl) rfl (fun K hK => ?_)
          go_simp
          obtain ⟨wa, hwa⟩ : ∃ wa, (World.alloc w9 (.cells #[.int .i64 a, .int .i64 d, .slice A' ins.length c'] 24)).drew = wa := ⟨_, rfl⟩
          rw [hwa]
          have hBa : Below w9.heap.size w9 wa := hwa ▸ below_drew ((Below.refl _ _).alloc (Nat.le_refl _) _)
          have hTa : Turned (fun b => b = gb ∨ sl.ownBlock = some b) w9 wa := Turned.of_below hBa _
          have hGa := HG9.out.same (hBa.block gb HG9.out.lt)
          have hWa := own_keep HW9.out hBa
          have hAa : At wa w9.heap.size 24 #[.int .i64 a, .int .i64 d, .slice A' ins.length c'] := hwa ▸ (show At (World.alloc w9 (.cells #[.int .i64 a, .int .i64 d, .slice A' ins.length c'] 24)).drew w9.heap.size _ _ from At.new w9 _ _)
          have hna : n ≤ wa.heap.size := Nat.le_trans HN9.out hBa.size
          have g29a := (ch_cells hGa).2
          clear hwa
          refine hK.out _ _ (by (try dsimp only); first | assumption | exact HTd.out) (fun hHeld => ?_)
          clear hK K
          (try simp only [Act.put, List.setIfInBounds_toArray, List.set_cons_zero, List.set_cons_succ])
          refine held.only (i := 13) (by kernel_rfl) rfl (fun K hK => ?_)
          refine step_of rfl (wp_append_at _ (.tmp 52) (.tmp 54) 31 rfl n 24 i0 _ 3 40 Try.underlying31 hi0 hz00 hz01 hz02 rfl (by decide) sl ts.length (flat ts) rfl hWa ⟨w9.heap.size, 0, none⟩ 1 1 [.int .i64 a, .int .i64 d, .slice A' ins.length c'] rfl rfl (at_cells hAa) (by simp [Value.oneCell']) (by unfold maxLen; omega) (by omega) hna ?_)
          intro v' w11 hown hgrow hwh
          obtain ⟨A9, c9, rfl⟩ := own_slice hown
          have hG11 := hGa.same (hgrow.block gb hGa.lt (fun e => HNGO.out e.symm))
          have hT11 := hTa.grown hgrow (fun k e => .inl (.inr e))
          have c11 := (ch_cells hG11).2
          have f11 := hG11.frozen 29
          refine hK.out _ _ (by (try dsimp only); first | assumption | exact HTd.out) (fun hHeld => ?_)
          clear hK K
          (try simp only [Act.put, List.setIfInBounds_toArray, List.set_cons_zero, List.set_cons_succ])
          refine held.take (i := 14) (v := .pointer (some ⟨gb, 0, none⟩)) rfl (by kernel_rfl) (by kernel_rfl) (by kernel_rfl) (fun _ _ _ h => h) (Or.inl ⟨by rfl, fun W hW => by (try dsimp only at hW); go_simp⟩) (by assumption) ?_
          (try simp only [Act.put, List.setIfInBounds_toArray, List.set_cons_zero, List.set_cons_succ])
          refine held.take (i := 15) (v := .pointer (some ⟨gb, 29, none⟩)) rfl (by kernel_rfl) (by kernel_rfl) (by kernel_rfl) (fun _ _ _ h => h) (Or.inl ⟨by rfl, fun W hW => by (try dsimp only at hW); go_simp⟩) (by assumption) ?_
          (try simp only [Act.put, List.setIfInBounds_toArray, List.set_cons_zero, List.set_cons_succ])
          refine held.only (i := 16) (by kernel_rfl) rfl (fun K hK => ?_)
          go_simp
          have hT12 := hT11.then_only (Only.cell w11 gb 29 (.slice A9 (ts.length + 1) c9)) (.inl (.inl rfl))
          refine hK.out _ _ (by (try dsimp only); first | assumption | exact HTd.out) (fun hHeld => ?_)
          clear hK K
          (try simp only [Act.put, List.setIfInBounds_toArray, List.set_cons_zero, List.set_cons_succ])
          refine wpAnyH_done (by kernel_rfl) ?_ _
          refine NoPanic.normal ?_
          go_wp2
          go_ret
          exact HE.out _ _ _ _ _ _ _ _ _ _ hB6 hM6.out hO7 hA7 hL8.out hB8.out hO9 hBa hown hgrow hwh
        · skip
          go_simp
          obtain ⟨wa, hwa⟩ : ∃ wa, (World.alloc w9 (.cells #[.int .i64 a, .int .i64 d, .slice A' ins.length c'] 24)).drew = wa := ⟨_, rfl⟩
          rw [hwa]
          have hBa : Below w9.heap.size w9 wa := hwa ▸ below_drew ((Below.refl _ _).alloc (Nat.le_refl _) _)
          have hTa : Turned (fun b => b = gb ∨ sl.ownBlock = some b) w9 wa := Turned.of_below hBa _
          have hGa := HG9.out.same (hBa.block gb HG9.out.lt)
          have hWa := own_keep HW9.out hBa
          have hAa : At wa w9.heap.size 24 #[.int .i64 a, .int .i64 d, .slice A' ins.length c'] := hwa ▸ (show At (World.alloc w9 (.cells #[.int .i64 a, .int .i64 d, .slice A' ins.length c'] 24)).drew w9.heap.size _ _ from At.new w9 _ _)
          have hna : n ≤ wa.heap.size := Nat.le_trans HN9.out hBa.size
          have g29a := (ch_cells hGa).2
          clear hwa
          refine hK.out _ _ (by (try dsimp only); first | assumption | exact HTd.out) (fun hHeld => ?_)
          clear hK K
          (try simp only [Act.put, List.setIfInBounds_toArray, List.set_cons_zero, List.set_cons_succ])
          refine held.only (i := 10) (by kernel_rfl) rfl (fun K hK => ?_)
          go_simp
          refine hK.out _ _ (by (try dsimp only); first | assumption | exact HTd.out) (fun hHeld => ?_)
          clear hK K
          (try simp only [Act.put, List.setIfInBounds_toArray, List.set_cons_zero, List.set_cons_succ])
          refine held.only (i := 13) (by kernel_rfl) rfl (fun K hK => ?_)
          refine step_of rfl (wp_append_at _ (.tmp 52) (.tmp 54) 31 rfl n 24 i0 _ 3 40 Try.underlying31 hi0 hz00 hz01 hz02 rfl (by decide) sl ts.length (flat ts) rfl hWa ⟨w9.heap.size, 0, none⟩ 1 1 [.int .i64 a, .int .i64 d, .slice A' ins.length c'] rfl rfl (at_cells hAa) (by simp [Value.oneCell']) (by unfold maxLen; omega) (by omega) hna ?_)
          intro v' w11 hown hgrow hwh
          obtain ⟨A9, c9, rfl⟩ := own_slice hown
          have hG11 := hGa.same (hgrow.block gb hGa.lt (fun e => HNGO.out e.symm))
          have hT11 := hTa.grown hgrow (fun k e => .inl (.inr e))
          have c11 := (ch_cells hG11).2
          have f11 := hG11.frozen 29
          refine hK.out _ _ (by (try dsimp only); first | assumption | exact HTd.out) (fun hHeld => ?_)
          clear hK K
          (try simp only [Act.put, List.setIfInBounds_toArray, List.set_cons_zero, List.set_cons_succ])
          refine held.take (i := 14) (v := .pointer (some ⟨gb, 0, none⟩)) rfl (by kernel_rfl) (by kernel_rfl) (by kernel_rfl) (fun _ _ _ h => h) (Or.inl ⟨by rfl, fun W hW => by (try dsimp only at hW); go_simp⟩) (by assumption) ?_
          (try simp only [Act.put, List.setIfInBounds_toArray, List.set_cons_zero, List.set_cons_succ])
          refine held.take (i := 15) (v := .pointer (some ⟨gb, 29, none⟩)) rfl (by kernel_rfl) (by kernel_rfl) (by kernel_rfl) (fun _ _ _ h => h) (Or.inl ⟨by rfl, fun W hW => by (try dsimp only at hW); go_simp⟩) (by assumption) ?_
          (try simp only [Act.put, List.setIfInBounds_toArray, List.set_cons_zero, List.set_cons_succ])
          refine held.only (i := 16) (by kernel_rfl) rfl (fun K hK => ?_)
          go_simp
          have hT12 := hT11.then_only (Only.cell w11 gb 29 (.slice A9 (ts.length + 1) c9)) (.inl (.inl rfl))
          refine hK.out _ _ (by (try dsimp only); first | assumption | exact HTd.out) (fun hHeld => ?_)
          clear hK K
          (try simp only [Act.put, List.setIfInBounds_toArray, List.set_cons_zero, List.set_cons_succ])
          refine wpAnyH_done (by kernel_rfl) ?_ _
          refine NoPanic.normal ?_
          go_wp2
          go_ret
          exact HE.out _ _ _ _ _ _ _ _ _ _ hB6 hM6.out hO7 hA7 hL8.out hB8.out hO9 hBa hown hgrow hwh
  · have KB2 : Hid (∀ W, Below w1.heap.size w1 W → Calls Try.prog 35 #[.agg (moL (.pointer (some ⟨tb, 0, none⟩)) s.m).toArray, .agg #[.int .i64 a, .int .i64 d, .slice A ins.length c]] W fun e w' => e = .returned (.tuple #[.agg (moL (.pointer none) zeroM).toArray, .int .i64 k]) ∧ Below W.heap.size W w') := Lib.hid fun W hW => (KB.out W (fun _ => False) hW (fun _ h => h.elim)).mono fun e w' ⟨h1, h2⟩ => h2.elim (fun h => ⟨h.2, h1⟩) (fun h => absurd h.1 hk0)
    have HE : Hid (∀ W, Below w1.heap.size w1 W → SplSays n w0 w cb s G m0 ts ⟨a, d, A, c, ins⟩ k (.returned (.int .i64 k)) W) := Lib.hid fun W hW => by
      have hB := hB1.trans (hW.mono (by omega))
      exact ⟨G, .of_below hB, rfl, .inl ⟨hk0, h.move hB⟩⟩
    have hkn : (k != 0) = true := by simpa using hk0
    clear hk0 hi hi1 hAg hM0 hRk hkG hSp hG1 hC1 hA1 hB1 hz1 h hG hk ht KB
    go_enter Try.func21, Try.ntmps21
    go_wp2_with (first
      | (refine wpList_boxV rfl 24 _ rfl _ rfl ?_; rw [hw1]; clear hw1)
      | (go_at_call 28; (with_reducible refine KN.out.mono ?_); rintro e w2 ⟨rfl, rfl⟩)
      | fail "NONE")
    refine wp_region_noPanic ?_
    refine wp_region_held_drew (S := fun W => Below w1.heap.size w1 W) (by kernel_rfl) (by (try dsimp only); first | assumption | exact KR.out) (fun hHeld => ?_)
    refine held.take (i := 0) (v := .pointer (some ⟨cb, 0, none⟩)) rfl (by kernel_rfl) (by kernel_rfl) (by kernel_rfl) (fun _ _ _ h => h) (Or.inl ⟨by rfl, fun W hW => by (try dsimp only at hW); go_simp⟩) (by assumption) ?_
    (try simp only [Act.put, List.setIfInBounds_toArray, List.set_cons_zero, List.set_cons_succ])
    refine held.take (i := 1) (v := .pointer (some ⟨cb, 0, none⟩)) rfl (by kernel_rfl) (by kernel_rfl) (by kernel_rfl) (fun _ _ _ h => h) (Or.inl ⟨by rfl, fun W hW => by (try dsimp only at hW); go_simp⟩) (by assumption) ?_
    (try simp only [Act.put, List.setIfInBounds_toArray, List.set_cons_zero, List.set_cons_succ])
    refine held.take (i := 2) (v := .pointer (some ⟨cb, 0, none⟩)) rfl (by kernel_rfl) (by kernel_rfl) (by kernel_rfl) (fun _ _ _ h => h) (Or.inl ⟨by rfl, fun W hW => by (try dsimp only at hW); go_simp⟩) (by assumption) ?_
    (try simp only [Act.put, List.setIfInBounds_toArray, List.set_cons_zero, List.set_cons_succ])
    refine held.take (i := 3) (v := .agg (moL (.pointer (some ⟨tb, 0, none⟩)) s.m).toArray) rfl (by kernel_rfl) (by kernel_rfl) (by kernel_rfl) (fun _ _ _ h => h) (yields_loadV (by rfl) _ _ rfl undM infM cb 0 rfl _ (moL_len _ _) (fun W hW => KM.out W hW)) (by assumption) ?_
    (try simp only [Act.put, List.setIfInBounds_toArray, List.set_cons_zero, List.set_cons_succ])
    refine held.take (i := 4) (v := .agg #[.int .i64 a, .int .i64 d, .slice A ins.length c]) rfl (by kernel_rfl) (by kernel_rfl) (by kernel_rfl) (fun _ _ _ h => h) (Or.inl ⟨by rfl, fun W hW => by (try dsimp only at hW); obtain ⟨x0, x1, x2⟩ := KX.out W hW; go_simp⟩) (by assumption) ?_
    (try simp only [Act.put, List.setIfInBounds_toArray, List.set_cons_zero, List.set_cons_succ])
    refine held_two (i := 5) (j := 9) (by kernel_rfl) rfl rfl (fun K hK => ?_) (fun K hK => ?_)
    · skip
      go_simp
      go_at_call 35
      (with_reducible refine (KB2.out _ hHeld).mono ?_)
      rintro e w4 ⟨rfl, hB4'⟩
      have hB4 := KU.out _ w4 hHeld hB4'
      refine hK.out _ _ (by (try dsimp only); first | assumption | exact KR.out) (fun hHeld => ?_)
      clear hK K
      (try simp only [Act.put, List.setIfInBounds_toArray, List.set_cons_zero, List.set_cons_succ])
      refine held.take (i := 6) (v := .tuple #[.agg (moL (.pointer none) zeroM).toArray, .int .i64 k]) rfl (by kernel_rfl) (by kernel_rfl) (by kernel_rfl) (fun _ _ _ h => h) (Or.inl ⟨by rfl, fun W hW => by (try dsimp only at hW); go_simp⟩) (by assumption) ?_
      (try simp only [Act.put, List.setIfInBounds_toArray, List.set_cons_zero, List.set_cons_succ])
      refine held.take (i := 7) (v := .agg (moL (.pointer none) zeroM).toArray) rfl (by kernel_rfl) (by kernel_rfl) (by kernel_rfl) (fun _ _ _ h => h) (Or.inl ⟨by rfl, fun W hW => by (try dsimp only at hW); go_simp⟩) (by assumption) ?_
      (try simp only [Act.put, List.setIfInBounds_toArray, List.set_cons_zero, List.set_cons_succ])
      refine held.take (i := 8) (v := .int .i64 k) rfl (by kernel_rfl) (by kernel_rfl) (by kernel_rfl) (fun _ _ _ h => h) (Or.inl ⟨by rfl, fun W hW => by (try dsimp only at hW); go_simp⟩) (by assumption) ?_
      (try simp only [Act.put, List.setIfInBounds_toArray, List.set_cons_zero, List.set_cons_succ])
      refine held.only (i := 9) (by kernel_rfl) rfl (fun K hK => ?_)
      refine step_of rfl (wp_allocV 53 rfl (moL (.pointer none) zeroM).toArray (zerM _) ?_)
      obtain ⟨w5, hw5⟩ : ∃ w5, World.alloc w4 (.cells (moL (.pointer none) zeroM).toArray 53) = w5 := ⟨_, rfl⟩
      rw [hw5]
      have hB45 : Below (World.heap w4).size w4 w5 := hw5 ▸ (Below.refl _ _).alloc (Nat.le_refl _) _
      have hA5 : At w5 (World.heap w4).size 53 (moL (.pointer none) zeroM).toArray := hw5 ▸ At.new _ _ _
      have hl5 : w1.heap.size ≤ (World.heap w4).size := (Below.size hHeld)
      have hB5 := KU.out _ w5 hHeld hB45
      clear hw5
      refine hK.out _ _ (by (try dsimp only); first | assumption | exact KR.out) (fun hHeld => ?_)
      clear hK K
      (try simp only [Act.put, List.setIfInBounds_toArray, List.set_cons_zero, List.set_cons_succ])
      refine held.only (i := 10) (by kernel_rfl) rfl (fun K hK => ?_)
      refine step_of rfl (wp_storeMo (.tmp 5) (.tmp 21) rfl _ _ _ hA5 none zeroM rfl rfl ?_)
      intro w6 hA6 hO6
      have hB6 := hHeld.trans (hO6.below hl5)
      refine hK.out _ _ (by (try dsimp only); first | assumption | exact KR.out) (fun hHeld => ?_)
      clear hK K
      (try simp only [Act.put, List.setIfInBounds_toArray, List.set_cons_zero, List.set_cons_succ])
      refine held.take (i := 11) (v := .int .i64 k) rfl (by kernel_rfl) (by kernel_rfl) (by kernel_rfl) (fun _ _ _ h => h) (Or.inl ⟨by rfl, fun W hW => by (try dsimp only at hW); go_simp⟩) (by assumption) ?_
      (try simp only [Act.put, List.setIfInBounds_toArray, List.set_cons_zero, List.set_cons_succ])
      refine wpAnyH_done (by kernel_rfl) ?_ _
      refine NoPanic.normal ?_
      go_wp2
      go_ret
      exact HE.out _ hB6
    · skip
      refine step_of rfl (wp_allocV 53 rfl (moL (.pointer none) zeroM).toArray (zerM _) ?_)
      obtain ⟨w5, hw5⟩ : ∃ w5, World.alloc w1.drew (.cells (moL (.pointer none) zeroM).toArray 53) = w5 := ⟨_, rfl⟩
      rw [hw5]
      have hB45 : Below (World.heap w1.drew).size w1.drew w5 := hw5 ▸ (Below.refl _ _).alloc (Nat.le_refl _) _
      have hA5 : At w5 (World.heap w1.drew).size 53 (moL (.pointer none) zeroM).toArray := hw5 ▸ At.new _ _ _
      have hl5 : w1.heap.size ≤ (World.heap w1.drew).size := (Below.size hHeld)
      have hB5 := KU.out _ w5 hHeld hB45
      clear hw5
      refine hK.out _ _ (by (try dsimp only); first | assumption | exact KR.out) (fun hHeld => ?_)
      clear hK K
      (try simp only [Act.put, List.setIfInBounds_toArray, List.set_cons_zero, List.set_cons_succ])
      refine held.only (i := 5) (by kernel_rfl) rfl (fun K hK => ?_)
      go_simp
      go_at_call 35
      (with_reducible refine (KB2.out _ hHeld).mono ?_)
      rintro e w4 ⟨rfl, hB4'⟩
      have hB4 := KU.out _ w4 hHeld hB4'
      have hA5 := At.same hA5 (hB4'.block _ hA5.lt)
      refine hK.out _ _ (by (try dsimp only); first | assumption | exact KR.out) (fun hHeld => ?_)
      clear hK K
      (try simp only [Act.put, List.setIfInBounds_toArray, List.set_cons_zero, List.set_cons_succ])
      refine held.take (i := 6) (v := .tuple #[.agg (moL (.pointer none) zeroM).toArray, .int .i64 k]) rfl (by kernel_rfl) (by kernel_rfl) (by kernel_rfl) (fun _ _ _ h => h) (Or.inl ⟨by rfl, fun W hW => by (try dsimp only at hW); go_simp⟩) (by assumption) ?_
      (try simp only [Act.put, List.setIfInBounds_toArray, List.set_cons_zero, List.set_cons_succ])
      refine held.take (i := 7) (v := .agg (moL (.pointer none) zeroM).toArray) rfl (by kernel_rfl) (by kernel_rfl) (by kernel_rfl) (fun _ _ _ h => h) (Or.inl ⟨by rfl, fun W hW => by (try dsimp only at hW); go_simp⟩) (by assumption) ?_
      (try simp only [Act.put, List.setIfInBounds_toArray, List.set_cons_zero, List.set_cons_succ])
      refine held.take (i := 8) (v := .int .i64 k) rfl (by kernel_rfl) (by kernel_rfl) (by kernel_rfl) (fun _ _ _ h => h) (Or.inl ⟨by rfl, fun W hW => by (try dsimp only at hW); go_simp⟩) (by assumption) ?_
      (try simp only [Act.put, List.setIfInBounds_toArray, List.set_cons_zero, List.set_cons_succ])
      refine held.only (i := 10) (by kernel_rfl) rfl (fun K hK => ?_)
      refine step_of rfl (wp_storeMo (.tmp 5) (.tmp 21) rfl _ _ _ hA5 none zeroM rfl rfl ?_)
      intro w6 hA6 hO6
      have hB6 := hHeld.trans (hO6.below hl5)
      refine hK.out _ _ (by (try dsimp only); first | assumption | exact KR.out) (fun hHeld => ?_)
      clear hK K
      (try simp only [Act.put, List.setIfInBounds_toArray, List.set_cons_zero, List.set_cons_succ])
      refine held.take (i := 11) (v := .int .i64 k) rfl (by kernel_rfl) (by kernel_rfl) (by kernel_rfl) (fun _ _ _ h => h) (Or.inl ⟨by rfl, fun W hW => by (try dsimp only at hW); go_simp⟩) (by assumption) ?_
      (try simp only [Act.put, List.setIfInBounds_toArray, List.set_cons_zero, List.set_cons_succ])
      refine wpAnyH_done (by kernel_rfl) ?_ _
      refine NoPanic.normal ?_
      go_wp2
      go_ret
      exact HE.out _ hB6
end
end Go.Proofs.Ytdbeedhedjhamaa.cor
