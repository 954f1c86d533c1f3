/- Grids: bytes.Repeat of one blank: a row of one's own, full of blanks. -/
import Derived.Test.YteekihhngjbjgaaGrdWords
import Derived.Test.YteekihhngjbjgaaShelf
import Derived.Lib.MakeNoZero
import Derived.Deep.RegionLaw
namespace Go.Proofs.Yteekihhngjbjgaa.grd
open Go.RowKit Go.Lib
set_option linter.unusedVariables false
set_option linter.unusedSimpArgs false
set_option linter.unnecessarySimpa false
set_option linter.unusedSectionVars false

def blk (n : Nat) : List Value := List.replicate n (.int .u8 32)
/-- Of a row of cells the first are blanks. -/
def Bl (cur : List Value) (b : Nat) : Prop := ∀ j, j < b → cur[j]? = some (.int .u8 32)
theorem splice_bl (cur : List Value) (b k : Nat) (h : Bl cur b) (hk : b + k ≤ cur.length) : Bl (splice cur b (blk k)) (b + k) ∧ (splice cur b (blk k)).length = cur.length := by
  have hl : (blk k).length = k := by simp [blk]
  refine ⟨fun j hj => ?_, length_splice _ _ _ (by rw [hl]; exact hk)⟩
  unfold splice
  by_cases h1 : j < b
  · rw [List.getElem?_append_left (by rw [List.length_take]; omega), List.getElem?_take_of_lt h1]
    exact h j h1
  · have hlt : (cur.take b).length = b := by rw [List.length_take]; omega
    rw [List.getElem?_append_right (by omega), hlt, List.getElem?_append_left (by rw [hl]; omega)]
    unfold blk
    rw [List.getElem?_replicate, if_pos (by omega)]
theorem size5W (W : World) : (Go.sizeOf 5).run Try.prog W = .ok 1 W := by kernel_rfl
theorem elem5 : Try.prog.elem 39 = 5 := by kernel_rfl
theorem add_zero_addr (a : Addr) : a.add 0 = a := by cases a; rfl
theorem head_slice (A : Option Addr) (n c m : Nat) (h : m ≤ c) (W : World) :
    (Instr.slice 39 (.slice A n c) none (some (.int .i64 (m : Int))) none).run Try.prog W = .ok (.slice A m c) W := by
  have hu : Try.prog.underlying 39 = some (.slice (Try.prog.elem 39)) := by rw [elem5]; exact Try.underlying39
  rw [run_slice_h (P := Try.prog) W 39 A n c hu .i64 (m : Int) (by omega) (by omega), elem5, size5W]
  simp only [Result.andThen, sliced, Int.toNat_natCast]
  cases A with
  | none => simp
  | some a => simp [add_zero_addr]
theorem tail_slice (g n c m : Nat) (h : m < c) (h2 : m ≤ n) (W : World) :
    (Instr.slice 39 (.slice (some ⟨g, 0, none⟩) n c) (some (.int .i64 (m : Int))) none none).run Try.prog W = .ok (.slice (some ⟨g, m, none⟩) (n - m) (c - m)) W := by
  have hu : Try.prog.underlying 39 = some (.slice (Try.prog.elem 39)) := by rw [elem5]; exact Try.underlying39
  rw [run_slice_l (P := Try.prog) W 39 _ n c hu .i64 (m : Int) (by omega) (by omega), elem5, size5W]
  simp only [Result.andThen, sliced, Int.toNat_natCast]
  rw [if_neg (by omega)]
  simp [Addr.add]
  omega
theorem size5 : (Try.prog.info? 5).map (·.size) = some 1 := by kernel_rfl
set_option maxHeartbeats 1000000 in
set_option maxRecDepth 100000 in
theorem repeat_is (w : World) (sb so c n : Nat) (hn1 : 1 ≤ n) (hn2 : n ≤ 8000) (hsb : sb < w.heap.size) (hs : w.cell? ⟨sb, so, none⟩ = some (.int .u8 32)) :
    Calls Try.prog 45 #[.slice (some ⟨sb, so, none⟩) 1 c, .int .i64 n] w fun e w' => e = .returned (.slice (some ⟨w.heap.size, 0, none⟩) n n) ∧ (∃ cur : List Value, At w' w.heap.size 5 cur.toArray ∧ Bl cur n) ∧ Below w.heap.size w w' := by
  obtain ⟨cs, hrun, hle, hmax⟩ := Lib.run_makeNoZero (P := Try.prog) w #[3] 39 5 Try.underlying39 n (by omega)
  have hcall : (callFunc 51 #[.int .i64 (n : Int)]).run Try.prog w = .ok (.value (.slice (some ⟨w.heap.size, 0, none⟩) n cs.size)) (w.drew.drew.alloc (.cells cs 5)) := by
    rw [run_callFunc_extern Try.func51 (by kernel_rfl) (by kernel_rfl) (by kernel_rfl) (e := Extern.BytealgMakeNoZero.makeNoZero #[3] #[39]) (by kernel_rfl), hrun]
    rfl
  have hMul := Try.bits_Mul 1 n (by omega) (by omega) w
  rw [Nat.one_mul, Nat.div_eq_of_lt (by omega : n < 18446744073709551616), Nat.mod_eq_of_lt (by omega : n < 18446744073709551616)] at hMul
  have hm2 := hmax (by unfold maxLen; omega)
  unfold maxLen at hm2
  clear hrun hmax
  go_enter Try.func45, Try.ntmps45
  go_wp2_with fail
  go_at_call 50
  refine hMul.mono ?_
  rintro e w' ⟨rfl, hw⟩
  have hw := hw.symm
  subst hw
  clear hMul
  have hB0 : Below w.heap.size w (w.alloc (.cells cs 5)).drew.drew := below_drew (below_drew ((Below.refl _ _).alloc (Nat.le_refl _) _))
  have hg0 : ((w.alloc (.cells cs 5)).drew.drew).heap[w.heap.size]? = some (.cells cs.toList.toArray 5 (0, 0)) := by rw [Array.toArray_toList]; exact heap_alloc_new w _
  have hs0 : ((w.alloc (.cells cs 5)).drew.drew).cell? ⟨sb, so, none⟩ = some (.int .u8 32) := (hB0.cell (p := ⟨sb, so, none⟩) hsb).trans hs
  have hlen : n ≤ cs.toList.length := by simpa using hle
  go_wp2_with (refine wpList_copy_splice rfl (.tmp 58) (.tmp 59) 39 39 rfl 5 Try.underlying39 size5 (some ⟨w.heap.size, 0, none⟩) (some ⟨sb, so, none⟩) n n 1 c rfl rfl w.heap.size 0 cs.toList 5 hg0 (blk 1) (by simp [blk, Nat.min_def]; omega) (fun _ => ⟨rfl, ⟨sb, so, none⟩, rfl, fun j v hj => by
      match j, hj with
      | 0, hj => rw [Go.WideShapes.add_plain, Nat.add_zero, hs0]; simpa [blk] using hj
      | j + 1, hj => simp [blk] at hj⟩) (by simp [blk]; omega) (fun v hv => by rw [List.eq_of_mem_replicate hv]; rfl) w.heap.size w hB0 (Nat.le_refl _) ?_; intro w1 hg1 hb1)
  have H1 : Hid (∃ cur : List Value, w1.heap[w.heap.size]? = some (.cells cur.toArray 5 (0, 0)) ∧ n ≤ cur.length ∧ Bl cur 1) := Lib.hid (by
    obtain ⟨h1, h2⟩ := splice_bl cs.toList 0 1 (fun j hj => absurd hj (Nat.not_lt_zero _)) (by omega)
    exact ⟨_, hg1.out, by rw [h2]; exact hlen, h1⟩)
  clear hg0 hg1 hB0 hs0 hlen hs hcall hle hm2
  go_loopg [10, 11] n (fun g s10 s11 wr => ∃ b : Nat, 1 ≤ b ∧ b ≤ n ∧ n - b ≤ g ∧ s10 = .int .i64 b ∧ Hid (∃ cur : List Value, wr.heap[w.heap.size]? = some (.cells cur.toArray 5 (0, 0)) ∧ n ≤ cur.length ∧ Bl cur b) ∧ Below w.heap.size w wr)
  case atStart => exact ⟨1, by omega, by omega, by omega, rfl, H1, hb1⟩
  case round =>
    obtain ⟨b, hb0, hbn, hg, rfl, HC, hB⟩ := hrel
    clear H1 hb1
    by_cases hlt : b < n
    · obtain ⟨cur, hg2, hl2, hbl⟩ := HC.out
      have hmin : min (b : Int) (n : Int) = b := by omega
      have G := Lib.hid hg2
      have L := Lib.hid hl2
      have BL := Lib.hid hbl
      clear HC hg2 hl2 hbl
      obtain ⟨z, hz⟩ : ∃ z, z = Nat.min b (n - b) := ⟨_, rfl⟩
      have hz1 : 1 ≤ z := by rw [hz]; simp [Nat.min_def]; split <;> omega
      have hz2 : b + z ≤ n := by rw [hz]; simp [Nat.min_def]; split <;> omega
      have hz3 : z ≤ b := by rw [hz]; simp [Nat.min_def]; split <;> omega
      have HZ := Lib.hid hz
      clear hz
      go_wp2_with fail
      have SRC : Hid (∀ (j : Nat) v, (blk z)[j]? = some v → wr.cell? ((⟨w.heap.size, 0, none⟩ : Addr).add j) = some v) := Lib.hid fun j v hj => by
        have hjz : j < z := by have := (List.getElem?_eq_some_iff.1 hj).1; simpa [blk] using this
        rw [Go.WideShapes.add_plain, Nat.zero_add, cell_of_row wr w.heap.size j _ 5 (0, 0) G.out, List.getElem?_toArray, BL.out j (by omega)]
        simpa [blk, hjz] using hj
      have LEN : Hid ((blk z).length = Nat.min b (n - b)) := Lib.hid (by rw [← HZ.out]; simp [blk])
      have FIT : Hid (b + (blk z).length ≤ cur.length) := Lib.hid (by have := L.out; simp [blk]; omega)
      have ONE : Hid (∀ v ∈ blk z, v.oneCell' = true) := Lib.hid (fun v hv => by rw [List.eq_of_mem_replicate hv]; rfl)
      have s1 := fun W => tail_slice w.heap.size n n b hlt (by omega) W
      have s2 := fun W => head_slice (some ⟨w.heap.size, 0, none⟩) n n b (by omega) W
      have HBD := Lib.hid (below_drew hB)
      clear hB
      go_region_law (refine step_copy_splice rfl (.tmp 70) (.tmp 73) 39 39 rfl 5 Try.underlying39 size5 (some ⟨w.heap.size, b, none⟩) (some ⟨w.heap.size, 0, none⟩) (n - b) (n - b) b n (by go_simp) (by go_simp) w.heap.size b cur 5 G.out (blk z) LEN.out (fun _ => ⟨rfl, ⟨w.heap.size, 0, none⟩, rfl, SRC.out⟩) FIT.out ONE.out w.heap.size w HBD.out (Nat.le_refl _) ?_; intro w4 hg4 hb4)
      have N4 : Hid (∃ cur : List Value, w4.heap[w.heap.size]? = some (.cells cur.toArray 5 (0, 0)) ∧ n ≤ cur.length ∧ Bl cur (b + z)) := Lib.hid (by
        obtain ⟨e1, e2⟩ := splice_bl cur b z BL.out (by have := L.out; omega)
        exact ⟨_, hg4.out, by rw [e2]; exact L.out, e1⟩)
      clear hg4
      have hlz : (blk z).length = z := by simp [blk]
      have hwz : IntKind.i64.wrap ((b : Int) + (z : Int)) = ((b + z : Nat) : Int) := by rw [IntKind.wrap_i64]; omega
      go_wp2
      go_roundg (n - (b + z))
      case measure => omega
      case rel => exact ⟨b + z, by omega, by omega, by omega, by first | rw [hlz, hwz] | (rw [hlz]; go_num), N4, hb4⟩
    · have hbe : b = n := by omega
      subst hbe
      obtain ⟨cur, hg2, hl2, hbl⟩ := HC.out
      have R := Lib.hid (⟨cur, hg2, hbl⟩ : ∃ cur : List Value, At wr w.heap.size 5 cur.toArray ∧ Bl cur b)
      clear hg2 hl2 hbl HC
      go_wp2
      go_ret
      exact ⟨rfl, R.out, hB⟩
end Go.Proofs.Yteekihhngjbjgaa.grd
