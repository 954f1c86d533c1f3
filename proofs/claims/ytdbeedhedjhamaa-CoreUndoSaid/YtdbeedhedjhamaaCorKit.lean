/- Core: the shapes of its types; cells of its blocks. -/
import Derived.Test.YtdbeedhedjhamaaCorWords
import Derived.Test.YtdbeedhedjhamaaHeld
import Derived.Test.YtdbeedhedjhamaaMrkSet
namespace Go.Proofs.Ytdbeedhedjhamaa.cor
open Go.RowKit Go.Lib pce sps mrk
set_option linter.unusedVariables false
set_option linter.unusedSimpArgs false
set_option linter.unnecessarySimpa false
set_option linter.unusedSectionVars false

theorem undM : ∃ d, Try.prog.underlying 53 = some d ∧ d.isRow = true := ⟨_, Try.underlying53, rfl⟩
theorem infM : (Try.prog.info? 53).map (·.size) = some 28 := by kernel_rfl
theorem undA : ∃ d, Try.prog.underlying 36 = some d ∧ d.isRow = true := ⟨_, mrk.und, rfl⟩
theorem undR : ∃ d, Try.prog.underlying 72 = some d ∧ d.isRow = true := ⟨_, Try.underlying72, rfl⟩
theorem infR : (Try.prog.info? 72).map (·.size) = some 1 := by kernel_rfl
theorem undV : ∃ d, Try.prog.underlying 38 = some d ∧ d.isRow = true := ⟨_, Try.underlying38, rfl⟩
theorem infV : (Try.prog.info? 38).map (·.size) = some 29 := by kernel_rfl
def zeroM : M := ⟨[], 0, noM⟩
theorem zerM (w : World) : (zeroValue 53).run Try.prog w = .ok (.agg (moL (.pointer none) zeroM).toArray) w := by kernel_rfl
theorem zerV (w : World) : (zeroValue 38).run Try.prog w = .ok (.agg (viL (.slice none 0 0) zeroM ⟨#[]⟩).toArray) w := by kernel_rfl
theorem bldM (v : Option Addr) (m : M) : Try.prog.built 53 [(0, .pointer v), (1, .int .i64 m.c), (2, .agg (arr m.f))] = some (moL (.pointer v) m).toArray := by kernel_rfl
theorem bldM2 (v : Option Addr) (L : List ByteArray) (c : Int) : Try.prog.built 53 [(0, .pointer v), (1, .int .i64 c)] = some (moL (.pointer v) ⟨L, c, noM⟩).toArray := by kernel_rfl
theorem bldM0 : Try.prog.built 53 [] = some (moL (.pointer none) zeroM).toArray := by kernel_rfl
theorem bldV (A : Option Addr) (n c : Nat) (m : M) (last : ByteArray) : Try.prog.built 38 [(0, .slice A n c), (1, .int .i64 m.c), (2, .agg (arr m.f)), (3, .string last)] = some (viL (.slice A n c) m last).toArray := by kernel_rfl
theorem bldV0 : Try.prog.built 38 [] = some (viL (.slice none 0 0) zeroM ⟨#[]⟩).toArray := by kernel_rfl
theorem bldC (v : Value) (m : M) (rg : Option Addr) : Try.prog.built 57 [(0, .agg (moL v m).toArray), (3, .pointer rg)] = some (coL v m (.pointer none) (.pointer none) (.pointer rg) ⟨#[]⟩ false).toArray := by kernel_rfl
theorem bldH (v : Value) (m : M) (rg : Option Addr) : Try.prog.built 69 [(0, .agg (moL v m).toArray), (1, .pointer rg)] = some (chL v m (.pointer rg) (.slice none 0 0)).toArray := by kernel_rfl
theorem run_bldM (v : Option Addr) (m : M) (W : World) : (Instr.build 53 #[(0, .pointer v), (1, .int .i64 m.c), (2, .agg (arr m.f))]).run Try.prog W = .ok (.agg (moL (.pointer v) m).toArray) W := run_build W _ _ _ (bldM v m)
theorem run_bldM2 (v : Option Addr) (L : List ByteArray) (c : Int) (W : World) : (Instr.build 53 #[(0, .pointer v), (1, .int .i64 c)]).run Try.prog W = .ok (.agg (moL (.pointer v) ⟨L, c, noM⟩).toArray) W := run_build W _ _ _ (bldM2 v L c)
theorem run_bldM0 (W : World) : (Instr.build 53 #[]).run Try.prog W = .ok (.agg (moL (.pointer none) zeroM).toArray) W := run_build W _ _ _ bldM0
theorem run_bldV (A : Option Addr) (n c : Nat) (m : M) (last : ByteArray) (W : World) : (Instr.build 38 #[(0, .slice A n c), (1, .int .i64 m.c), (2, .agg (arr m.f)), (3, .string last)]).run Try.prog W = .ok (.agg (viL (.slice A n c) m last).toArray) W := run_build W _ _ _ (bldV A n c m last)
theorem run_bldV0 (W : World) : (Instr.build 38 #[]).run Try.prog W = .ok (.agg (viL (.slice none 0 0) zeroM ⟨#[]⟩).toArray) W := run_build W _ _ _ bldV0
theorem run_bldC (v : Value) (m : M) (rg : Option Addr) (W : World) : (Instr.build 57 #[(0, .agg (moL v m).toArray), (3, .pointer rg)]).run Try.prog W = .ok (.agg (coL v m (.pointer none) (.pointer none) (.pointer rg) ⟨#[]⟩ false).toArray) W := run_build W _ _ _ (bldC v m rg)
theorem run_bldH (v : Value) (m : M) (rg : Option Addr) (W : World) : (Instr.build 69 #[(0, .agg (moL v m).toArray), (1, .pointer rg)]).run Try.prog W = .ok (.agg (chL v m (.pointer rg) (.slice none 0 0)).toArray) W := run_build W _ _ _ (bldH v m rg)

section
variable {w : World} {b cb : Nat} {t : TypeId} {v bk gn rg s l : Value} {m : M} {last : ByteArray} {d : Bool}
theorem co_cells (h : At w cb t (coL v m bk gn rg last d).toArray) : w.cell? ⟨cb, 0, none⟩ = some v ∧ w.cell? ⟨cb, 1, none⟩ = some (.int .i64 m.c) ∧ w.cell? ⟨cb, 28, none⟩ = some bk ∧ w.cell? ⟨cb, 29, none⟩ = some gn ∧ w.cell? ⟨cb, 30, none⟩ = some rg ∧ w.cell? ⟨cb, 31, none⟩ = some (.string last) ∧ w.cell? ⟨cb, 32, none⟩ = some (.bool d) := by
  have g : ∀ i, w.cell? ⟨cb, 28 + i, none⟩ = [bk, gn, rg, .string last, .bool d][i]? := fun i => by
    rw [At.cell' h, coL, List.getElem?_append_right (by rw [moL_len]; omega), moL_len]
    congr 1
    omega
  exact ⟨(At.cell' h 0).trans rfl, (At.cell' h 1).trans rfl, g 0, g 1, g 2, g 3, g 4⟩
theorem co_moment (h : At w cb t (coL v m bk gn rg last d).toArray) : w.rangeAt cb 0 (moL v m) := At.mid (l1 := []) (m := moL v m) (l2 := [bk, gn, rg, .string last, .bool d]) h
theorem co_marks (h : At w cb t (coL v m bk gn rg last d).toArray) : w.rangeAt cb 2 (arrL m.f) := At.mid (l1 := [v, .int .i64 m.c]) (m := arrL m.f) (l2 := [bk, gn, rg, .string last, .bool d]) h
theorem mo_cells (h : At w b t (moL v m).toArray) : w.cell? ⟨b, 0, none⟩ = some v ∧ w.cell? ⟨b, 1, none⟩ = some (.int .i64 m.c) := ⟨(At.cell' h 0).trans rfl, (At.cell' h 1).trans rfl⟩
theorem mo_marks (h : At w b t (moL v m).toArray) : w.rangeAt b 2 (arrL m.f) := At.mid (l1 := [v, .int .i64 m.c]) (m := arrL m.f) (l2 := []) (by rw [List.append_nil]; exact h)
theorem ch_cells (h : At w b t (chL v m rg s).toArray) : w.cell? ⟨b, 28, none⟩ = some rg ∧ w.cell? ⟨b, 29, none⟩ = some s := by
  have g : ∀ i, w.cell? ⟨b, 28 + i, none⟩ = [rg, s][i]? := fun i => by
    rw [At.cell' h, chL, List.getElem?_append_right (by rw [moL_len]; omega), moL_len]
    congr 1
    omega
  exact ⟨g 0, g 1⟩
theorem ch_moment (h : At w b t (chL v m rg s).toArray) : w.rangeAt b 0 (moL v m) := At.mid (l1 := []) (m := moL v m) (l2 := [rg, s]) h
theorem vi_cells (h : At w b t (viL l m last).toArray) : w.cell? ⟨b, 0, none⟩ = some l ∧ w.cell? ⟨b, 1, none⟩ = some (.int .i64 m.c) := ⟨(At.cell' h 0).trans rfl, (At.cell' h 1).trans rfl⟩
theorem vi_marks (h : At w b t (viL l m last).toArray) : w.rangeAt b 2 (arrL m.f) := At.mid (l1 := [l, .int .i64 m.c]) (m := arrL m.f) (l2 := [.string last]) h
theorem mo_one (hv : v.oneCell' = true) : ∀ u ∈ moL v m, u.oneCell' = true := by
  intro u hu
  simp only [moL, List.mem_cons] at hu
  rcases hu with rfl | rfl | hu
  · exact hv
  · rfl
  · simp only [arrL, List.mem_map] at hu
    obtain ⟨i, _, rfl⟩ := hu
    rfl
theorem vi_one (hl : l.oneCell' = true) : ∀ u ∈ viL l m last, u.oneCell' = true := by
  intro u hu
  simp only [viL, List.mem_cons, List.mem_append, List.not_mem_nil, or_false] at hu
  rcases hu with rfl | rfl | hu | rfl
  · exact hl
  · rfl
  · simp only [arrL, List.mem_map] at hu
    obtain ⟨i, _, rfl⟩ := hu
    rfl
  · rfl
theorem vi_len : (viL l m last).length = 29 := by simp [viL, arrL_len]
/-- A result that stands in a cell. -/
theorem results_V1 {fn : Func} {p : Tmp} (ty : TypeId) {k : Nat} (hu : ∃ d, Try.prog.underlying ty = some d ∧ d.isRow = true) (hi : (Try.prog.info? ty).map (·.size) = some k) (h : fn.results = #[.cell p ty]) {tmps : Array Value} {b : Nat} (hp : tmps.getD p undef = .pointer (some ⟨b, 0, none⟩)) {w : World} {cs : List Value} (hl : cs.length = k) (hA : w.rangeAt b 0 cs) :
    (results fn tmps).run Try.prog w = .ok (.agg cs.toArray) w := by
  obtain ⟨d, hd, hr⟩ := hu
  subst hl
  simp only [results, h]
  rw [Array.getD_eq_getD_getElem?] at hp
  simp [Sem.run_bind, Result.andThen, hp, asAddr, run_loadVar_mid w b 0 ty cs d hA hd hr hi]
theorem results_V2 {fn : Func} {p u : Tmp} (ty : TypeId) {k : Nat} (hu : ∃ d, Try.prog.underlying ty = some d ∧ d.isRow = true) (hi : (Try.prog.info? ty).map (·.size) = some k) (h : fn.results = #[.cell p ty, .tmp u]) {tmps : Array Value} {b : Nat} (hp : tmps.getD p undef = .pointer (some ⟨b, 0, none⟩)) {w : World} {cs : List Value} (hl : cs.length = k) (hA : w.rangeAt b 0 cs) :
    (results fn tmps).run Try.prog w = .ok (.tuple #[.agg cs.toArray, tmps.getD u undef]) w := by
  obtain ⟨d, hd, hr⟩ := hu
  subst hl
  simp only [results, h]
  rw [Array.getD_eq_getD_getElem?] at hp
  simp [Sem.run_bind, Result.andThen, hp, asAddr, run_loadVar_mid w b 0 ty cs d hA hd hr hi]
end
section
variable {ops : Array Oper} {rest : List Oper} {op : Oper} {a : Act} {w : World} {Q : Exit → Act → World → Prop} {K : Act → World → Prop} {S : World → Prop}
theorem wpList_loadV (hgd : op.guard = none) (ty : TypeId) (x : Operand) (ho : op.op = .load ty x) {k : Nat} (hu : ∃ d, Try.prog.underlying ty = some d ∧ d.isRow = true) (hi : (Try.prog.info? ty).map (·.size) = some k) (b o : Nat) (hx : a.eval x = .pointer (some ⟨b, o, none⟩)) (cs : List Value) (hl : cs.length = k) (hc : w.rangeAt b o cs)
    (h : wpList Try.prog ops Q rest (a.put op.dst (.agg cs.toArray)) w) : wpList Try.prog ops Q (op :: rest) a w := by
  obtain ⟨d, hd, hr⟩ := hu
  subst hl
  exact wpList_load_mid hgd ty x ho b o hx cs d hc hd hr hi h
theorem wp_loadV (ty : TypeId) (x : Operand) (ho : op.op = .load ty x) {k : Nat} (hu : ∃ d, Try.prog.underlying ty = some d ∧ d.isRow = true) (hi : (Try.prog.info? ty).map (·.size) = some k) (b o : Nat) (hx : a.eval x = .pointer (some ⟨b, o, none⟩)) (cs : List Value) (hl : cs.length = k) (hc : w.rangeAt b o cs)
    (h : K (a.put op.dst (.agg cs.toArray)) w) : Oper.wp Try.prog op a w K Q := by
  obtain ⟨d, hd, hr⟩ := hu
  subst hl
  exact wp_load_mid ty x ho b o hx cs d hc hd hr hi h
theorem yields_loadV (hw : Region.wanted op (yielded ops a.tmps) = true) (ty : TypeId) (x : Operand) (ho : op.op = .load ty x) {k : Nat} (hu : ∃ d, Try.prog.underlying ty = some d ∧ d.isRow = true) (hi : (Try.prog.info? ty).map (·.size) = some k) (b o : Nat) (hx : a.eval x = .pointer (some ⟨b, o, none⟩)) (cs : List Value) (hl : cs.length = k) (hS : ∀ W, S W → W.rangeAt b o cs) : YieldsIf Try.prog ops S op (.agg cs.toArray) a := by
  obtain ⟨d, hd, hr⟩ := hu
  subst hl
  exact yieldsIf_load_mid hw ty x ho b o hx cs d hS hd hr hi
theorem yields_buildV (hw : Region.wanted op (yielded ops a.tmps) = true) (ty : TypeId) (parts : Array (Nat × Operand)) (ho : op.op = .build ty parts) (vs : Array (Nat × Value)) (hv : (parts.map fun (i, x) => (i, a.eval x)) = vs) (cs : Array Value) (hb : Try.prog.built ty vs.toList = some cs) : YieldsIf Try.prog ops S op (.agg cs) a :=
  .inl ⟨hw, fun W _ => by
    subst hv
    unfold execOp
    simp only [ho, Sem.run_bind, run_build W ty _ cs hb, Sem.run_pure, Result.andThen_ok]⟩
theorem wpList_buildV (hgd : op.guard = none) (ty : TypeId) (parts : Array (Nat × Operand)) (ho : op.op = .build ty parts) (vs : Array (Nat × Value)) (hv : (parts.map fun (i, x) => (i, a.eval x)) = vs) (cs : Array Value) (hb : Try.prog.built ty vs.toList = some cs)
    (h : wpList Try.prog ops Q rest (a.put op.dst (.agg cs)) w) : wpList Try.prog ops Q (op :: rest) a w :=
  wpList_plain hgd fun _ hK => by
    subst hv
    unfold Oper.wp execOp
    simp only [ho, Sem.run_bind, run_build w ty _ cs hb, Result.andThen_ok]
    exact hK _ _ h
theorem wpList_loadMk (hgd : op.guard = none) (x : Operand) (ho : op.op = .load 36 x) (b o : Nat) (hx : a.eval x = .pointer (some ⟨b, o, none⟩)) (f : Nat → Int) (hc : w.rangeAt b o (arrL f))
    (h : wpList Try.prog ops Q rest (a.put op.dst (.agg (arr f))) w) : wpList Try.prog ops Q (op :: rest) a w :=
  wpList_loadV hgd 36 x ho undA mrk.inf b o hx (arrL f) (arrL_len _) hc h
/-- A moment laid down where one lies. -/
theorem wp_storeMo (x y : Operand) (ho : op.op = .store 53 x y) (b : Nat) (u : Value) (m0 : M) (h : At w b 53 (moL u m0).toArray) (v : Option Addr) (m : M)
    (hx : a.eval x = .pointer (some ⟨b, 0, none⟩)) (hy : a.eval y = .agg (moL (.pointer v) m).toArray)
    (hk : ∀ w', At w' b 53 (moL (.pointer v) m).toArray → Only b w w' → K (a.put op.dst undef) w') : Oper.wp Try.prog op a w K Q := by
  refine wp_storeM 53 x y ho b _ [] (moL u m0) [] (by rw [List.nil_append, List.append_nil]; exact h) (moL (.pointer v) m) (by rw [moL_len, moL_len]) 0 rfl hx hy (by rw [moL_len]; exact infM) (mo_one rfl) ?_
  intro w' h1 h2
  rw [List.nil_append, List.append_nil] at h1
  exact hk w' h1 h2
theorem wpList_storeMo (hgd : op.guard = none) (x y : Operand) (ho : op.op = .store 53 x y) (b : Nat) (u : Value) (m0 : M) (h : At w b 53 (moL u m0).toArray) (v : Option Addr) (m : M)
    (hx : a.eval x = .pointer (some ⟨b, 0, none⟩)) (hy : a.eval y = .agg (moL (.pointer v) m).toArray)
    (hk : ∀ w', At w' b 53 (moL (.pointer v) m).toArray → Only b w w' → wpList Try.prog ops Q rest (a.put op.dst undef) w') : wpList Try.prog ops Q (op :: rest) a w := by
  refine wpList_storeM hgd 53 x y ho b _ [] (moL u m0) [] (by rw [List.nil_append, List.append_nil]; exact h) (moL (.pointer v) m) (by rw [moL_len, moL_len]) 0 rfl hx hy (by rw [moL_len]; exact infM) (mo_one rfl) ?_
  intro w' h1 h2
  rw [List.nil_append, List.append_nil] at h1
  exact hk w' h1 h2
end
end Go.Proofs.Ytdbeedhedjhamaa.cor
