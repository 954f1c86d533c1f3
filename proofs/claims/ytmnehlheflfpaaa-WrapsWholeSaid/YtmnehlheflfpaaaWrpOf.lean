/- Lines in rows: the document's word for one byte; how many rows; a list of numbers against another. -/
import Derived.Test.YtmnehlheflfpaaaWrpWords
namespace Go.Proofs.Ytmnehlheflfpaaa.wrp
open Go.RowKit Go.Lib
set_option linter.unusedVariables false
set_option linter.unusedSimpArgs false
set_option linter.unnecessarySimpa false
set_option linter.unusedSectionVars false

/-- A row of bytes that lies in one block, as a text. -/
theorem conv_row (w : World) (cs : Array Value) (l : List UInt8) (hcs : cs.toList = l.map u8) (H : Nat) (hH : w.heap.size = H) (m c : Nat) (hm : m = l.length) :
    (convert 37 9 (.slice (some ⟨H, 0, none⟩) m c)).run Try.prog (w.alloc (.cells cs 5)) = .ok (.string (B l)) (w.alloc (.cells cs 5)) := by
  subst hH hm
  exact run_convert_bytes_back (P := Try.prog) _ 37 9 5 ⟨w.heap.size, 0, none⟩ c l Try.underlying37 Try.underlying5 Try.underlying9 (fun j hj => by
    rw [Go.WideShapes.add_plain, Nat.zero_add, (At.new w 5 cs).cell j, ← Array.getElem?_toList, hcs, List.getElem?_map, List.getElem?_eq_getElem hj]; rfl)
theorem add_B (a b : List UInt8) : B a ++ B b = B (a ++ b) := by
  apply ByteArray.ext
  rw [ByteArray.data_append]
  simp [B]
theorem replicate_snoc (j : Nat) : B (List.replicate j 32) ++ (⟨#[32]⟩ : ByteArray) = B (List.replicate (j + 1) 32) := by
  rw [List.replicate_succ']
  exact add_B _ [32]
set_option maxHeartbeats 4000000 in
set_option maxRecDepth 100000 in
theorem of_is (b : UInt8) (ah : Nat) (w : World) (hah : ah ≤ 100000000) :
    Calls Try.prog 20 #[.int .u8 (b.toNat : Int), .int .i64 ah] w fun e w' => e = .returned (.string (B (ofL b ah))) ∧ Below w.heap.size w w' := by
  by_cases h9 : b.toNat = 9
  · obtain rfl : b = 9 := UInt8.toNat_inj.1 h9
    have HO : Hid (ofL 9 ah = List.replicate (8 - ah % 8) 32) := Lib.hid (by unfold ofL; exact if_pos h9)
    have q1 : (((9 : UInt8).toNat : Int)) = 9 := rfl
    rw [q1]
    obtain ⟨m, hm⟩ : ∃ m, m = 8 - ah % 8 := ⟨_, rfl⟩
    rw [← hm] at HO
    have hm8 : 1 ≤ m ∧ m ≤ 8 := by omega
    have HM := Lib.hid hm
    clear h9 q1 hm
    go_enter Try.func20, Try.ntmps20
    go_wp2
    go_loopg [5] m (fun g s5 wr => ∃ j : Nat, 1 ≤ j ∧ j ≤ m ∧ m - j ≤ g ∧ s5 = .string (B (List.replicate j 32)) ∧ w = wr)
    case atStart => exact ⟨1, Nat.le_refl _, hm8.1, by omega, rfl, rfl⟩
    case round =>
      obtain ⟨j, hj1, hj, hg, rfl, rfl⟩ := hrel
      have hsz : (B (List.replicate j 32)).size = j := by rw [B_size, List.length_replicate]
      have HS := Lib.hid (replicate_snoc j)
      obtain ⟨s, hs⟩ : ∃ s, s = B (List.replicate j 32) := ⟨_, rfl⟩
      rw [← hs] at hsz HS ⊢
      have HSS := Lib.hid hs
      clear hs
      by_cases hlt : j < m
      · have q : ((ah : Int) + (j : Int)) % 8 ≠ 0 := by have := HM.out; omega
        go_wp2
        go_roundg (m - (j + 1))
        case measure => omega
        case rel => exact ⟨j + 1, by omega, by omega, by omega, by rw [HS.out], rfl⟩
      · have hjm : j = m := by omega
        have q : ((ah : Int) + (j : Int)) % 8 = 0 := by have := HM.out; omega
        go_wp2
        go_ret
        exact ⟨by rw [HO.out, ← hjm, ← HSS.out]; rfl, Below.refl _ _⟩
  by_cases h1 : b.toNat < 32
  · have HO : Hid (ofL b ah = [94, b + 64]) := Lib.hid (by unfold ofL; rw [if_neg h9, if_pos h1])
    have HV : Hid (((b + 64).toNat : Int) = (b.toNat : Int) + 64) := Lib.hid (by rw [UInt8.toNat_add]; show (((b.toNat + 64) % 256 : Nat) : Int) = _; omega)
    have q1 : ((b.toNat : Int) == 9) = false := by simp; omega
    have q4 : decide ((b.toNat : Int) < 32) = true := by simp; omega
    have hz : (b.toNat : Int) + 64 ≤ 255 := by omega
    have cv := conv_row w #[.int .u8 ((b.toNat : Int) + 64)] [b + 64] (by show [Value.int .u8 _] = [Value.int .u8 _]; rw [HV.out]) _ rfl 1 1 rfl
    have HB : Hid (Below w.heap.size w (w.alloc (.cells #[.int .u8 ((b.toNat : Int) + 64)] 5))) := Lib.hid ((Below.refl _ _).alloc (Nat.le_refl _) _)
    clear h1 h9
    go_enter Try.func20, Try.ntmps20
    go_wp2
    go_ret
    exact ⟨by rw [HO.out]; rfl, HB.out⟩
  by_cases h2 : b.toNat = 127
  · obtain rfl : b = 127 := UInt8.toNat_inj.1 h2
    have HO : Hid (ofL 127 ah = [94, 63]) := Lib.hid (by unfold ofL; rfl)
    have q1 : (((127 : UInt8).toNat : Int)) = 127 := rfl
    rw [q1]
    clear h1 h9 h2 q1
    go_enter Try.func20, Try.ntmps20
    go_wp2
    go_ret
    exact ⟨by rw [HO.out]; rfl, Below.refl _ _⟩
  by_cases h3 : 127 < b.toNat
  · have HO : Hid (ofL b ah = [92, 48 + b / 64, 48 + b / 8 % 8, 48 + b % 8]) := Lib.hid (by unfold ofL; rw [if_neg (by omega), if_neg (by omega), if_neg (by omega), if_pos h3])
    have q1 : ((b.toNat : Int) == 9) = false := by simp; omega
    have q2 : decide (127 < (b.toNat : Int)) = true := by simp; omega
    have q3 : ((b.toNat : Int) == 127) = false := by simp; omega
    have q4 : decide ((b.toNat : Int) < 32) = false := by simp; omega
    have hbt := b.toNat_lt
    obtain ⟨x1, hx1⟩ : ∃ x : Nat, x = 48 + b.toNat / 64 := ⟨_, rfl⟩
    obtain ⟨x2, hx2⟩ : ∃ x : Nat, x = 48 + b.toNat / 8 % 8 := ⟨_, rfl⟩
    obtain ⟨x3, hx3⟩ : ∃ x : Nat, x = 48 + b.toNat % 8 := ⟨_, rfl⟩
    have HB : Hid (Below w.heap.size w (w.alloc (.cells #[.int .u8 (48 + (b.toNat : Int) / 64), .int .u8 (48 + (b.toNat : Int) / 8 % 8), .int .u8 (48 + (b.toNat : Int) % 8)] 5))) := Lib.hid ((Below.refl _ _).alloc (Nat.le_refl _) _)
    have cv := conv_row w #[.int .u8 (48 + (b.toNat : Int) / 64), .int .u8 (48 + (b.toNat : Int) / 8 % 8), .int .u8 (48 + (b.toNat : Int) % 8)] [48 + b / 64, 48 + b / 8 % 8, 48 + b % 8] (by
      have e1 : (((48 : UInt8) + b / 64).toNat : Int) = 48 + (b.toNat : Int) / 64 := by rw [UInt8.toNat_add, UInt8.toNat_div]; show (((48 + b.toNat / 64) % 256 : Nat) : Int) = _; omega
      have e2 : (((48 : UInt8) + b / 8 % 8).toNat : Int) = 48 + (b.toNat : Int) / 8 % 8 := by rw [UInt8.toNat_add, UInt8.toNat_mod, UInt8.toNat_div]; show (((48 + b.toNat / 8 % 8) % 256 : Nat) : Int) = _; omega
      have e3 : (((48 : UInt8) + b % 8).toNat : Int) = 48 + (b.toNat : Int) % 8 := by rw [UInt8.toNat_add, UInt8.toNat_mod]; show (((48 + b.toNat % 8) % 256 : Nat) : Int) = _; omega
      show [Value.int .u8 _, Value.int .u8 _, Value.int .u8 _] = [Value.int .u8 _, Value.int .u8 _, Value.int .u8 _]; rw [e1, e2, e3]) _ rfl 3 3 rfl
    have hd1 : (b.toNat : Int) / 64 ≤ 3 := by omega
    have hd2 : (b.toNat : Int) / 8 % 8 ≤ 7 := by omega
    have hd3 : (b.toNat : Int) % 8 ≤ 7 := by omega
    clear h1 h9 h2 h3
    go_enter Try.func20, Try.ntmps20
    go_wp2
    go_ret
    exact ⟨by rw [HO.out]; rfl, HB.out⟩
  · have HO : Hid (ofL b ah = [b]) := Lib.hid (by unfold ofL; rw [if_neg (by omega), if_neg h1, if_neg h2, if_neg h3])
    have q1 : ((b.toNat : Int) == 9) = false := by simp; omega
    have q2 : decide (127 < (b.toNat : Int)) = false := by simp; omega
    have q3 : ((b.toNat : Int) == 127) = false := by simp; omega
    have q4 : decide ((b.toNat : Int) < 32) = false := by simp; omega
    have cv := conv_row w #[.int .u8 (b.toNat : Int)] [b] rfl _ rfl 1 1 rfl
    have HB : Hid (Below w.heap.size w (w.alloc (.cells #[.int .u8 (b.toNat : Int)] 5))) := Lib.hid ((Below.refl _ _).alloc (Nat.le_refl _) _)
    clear h1 h2 h3 h9
    go_enter Try.func20, Try.ntmps20
    go_wp2
    go_ret
    exact ⟨by rw [HO.out]; rfl, HB.out⟩
theorem wrap_small (x : Int) (h0 : 0 ≤ x) (h1 : x ≤ 1000000000) : wrap64 x = x := by unfold wrap64; omega
set_option maxHeartbeats 4000000 in
theorem rows_is (n c : Nat) (hc : 0 < c) (hn : n ≤ 100000000) (w : World) :
    Calls Try.prog 22 #[.int .i64 n, .int .i64 c] w fun e w' => e = .returned (.int .i64 (rowsN n c : Nat)) ∧ w = w' := by
  rcases n with _ | m
  · have HR : Hid (rowsN 0 c = 1) := Lib.hid (by unfold rowsN; rw [Nat.zero_sub, Nat.zero_div])
    have hc0 : ¬ (c : Int) = 0 := by omega
    go_enter Try.func22, Try.ntmps22
    go_wp2
    go_ret
    exact ⟨by rw [HR.out]; rfl, rfl⟩
  · have HR : Hid (rowsN (m + 1) c = m / c + 1) := Lib.hid (by unfold rowsN; rw [Nat.add_sub_cancel])
    have hq : (m : Int) / (c : Int) ≤ 100000000 := by have := Nat.div_le_self m c; have e : (m : Int) / (c : Int) = ((m / c : Nat) : Int) := rfl; rw [e]; omega
    have hq0 : (0 : Int) ≤ (m : Int) / (c : Int) := by have e : (m : Int) / (c : Int) = ((m / c : Nat) : Int) := rfl; rw [e]; exact Int.natCast_nonneg _
    have hc0 : ¬ (c : Int) = 0 := by omega
    have h0 : max (((m + 1 : Nat) : Int) - 1) 0 = (m : Int) := by omega
    have h1 : ((m + 1 : Nat) : Int) - 1 = (m : Int) := by omega
    go_enter Try.func22, Try.ntmps22
    go_wp2
    go_ret
    exact ⟨by trace_state; rw [HR.out]; rfl, rfl⟩
end Go.Proofs.Ytmnehlheflfpaaa.wrp
