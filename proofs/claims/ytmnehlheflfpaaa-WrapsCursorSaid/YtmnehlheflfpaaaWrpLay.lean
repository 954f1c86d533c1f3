/- Lines in rows: lay, onto a row of one's own. -/
import Derived.Test.YtmnehlheflfpaaaWrpWords
namespace Go.Proofs.Ytmnehlheflfpaaa.wrp
open Go.RowKit Go.Lib
set_option linter.unusedVariables false
set_option linter.unusedSimpArgs false
set_option linter.unnecessarySimpa false
set_option linter.unusedSectionVars false

def LaySays (base : Nat) (v : Value) (xs : List UInt8) (b : UInt8) (ah : Nat) (w : World) (e : Ending) (w' : World) : Prop := ∃ v', e = .returned v' ∧ Buf base v.ownBlock w w' v' (xs ++ ofL b ah)
set_option maxHeartbeats 4000000 in
set_option maxRecDepth 100000 in
theorem lay_plain (base : Nat) (v : Value) (xs : List UInt8) (b : UInt8) (ah : Nat) (w : World) (h1 : 32 ≤ b.toNat) (h2 : b.toNat < 127) (hown : w.ownsRow base 5 1 v xs.length (xs.map u8)) (hbase : base ≤ w.heap.size) (hx : xs.length ≤ 1000000) :
    Calls Try.prog 19 #[v, .int .u8 (b.toNat : Int), .int .i64 ah] w (LaySays base v xs b ah w) := by
  have hb := Lib.hid (Buf.start hown)
  have HO : Hid (ofL b ah = [b]) := Lib.hid (by unfold ofL; rw [if_neg (by omega), if_neg (by omega), if_neg (by omega), if_neg (by omega)])
  have q1 : ((b.toNat : Int) == 9) = false := by simp; omega
  have q2 : decide (127 < (b.toNat : Int)) = false := by simp; omega
  have q3 : ((b.toNat : Int) == 127) = false := by simp; omega
  have q4 : decide ((b.toNat : Int) < 32) = false := by simp; omega
  obtain ⟨A, c, rfl, _, _⟩ := own_form' hown
  clear hown h1 h2
  go_enter Try.func19, Try.ntmps19
  go_wp2_with (refine wpList_buf rfl _ _ rfl hb.out rfl [b] rfl _ rfl 1 rfl rfl (by simp) (by simp; omega) hbase ?_; intro g cap w2 hb2; have hb2 := Lib.hid hb2)
  go_ret
  exact ⟨_, rfl, by rw [HO.out]; exact hb2.out⟩
set_option maxHeartbeats 4000000 in
set_option maxRecDepth 100000 in
theorem lay_low (base : Nat) (v : Value) (xs : List UInt8) (b : UInt8) (ah : Nat) (w : World) (h1 : b.toNat < 32) (h2 : b.toNat ≠ 9) (hown : w.ownsRow base 5 1 v xs.length (xs.map u8)) (hbase : base ≤ w.heap.size) (hx : xs.length ≤ 1000000) :
    Calls Try.prog 19 #[v, .int .u8 (b.toNat : Int), .int .i64 ah] w (LaySays base v xs b ah w) := by
  have hb := Lib.hid (Buf.start hown)
  have HO : Hid (ofL b ah = [94, b + 64]) := Lib.hid (by unfold ofL; rw [if_neg h2, if_pos h1])
  have HV : Hid (((b + 64).toNat : Int) = (b.toNat : Int) + 64) := Lib.hid (by rw [UInt8.toNat_add]; show (((b.toNat + 64) % 256 : Nat) : Int) = _; omega)
  have q1 : ((b.toNat : Int) == 9) = false := by simp; omega
  have q2 : decide (127 < (b.toNat : Int)) = false := by simp; omega
  have q3 : ((b.toNat : Int) == 127) = false := by simp; omega
  have q4 : decide ((b.toNat : Int) < 32) = true := by simp; omega
  have hz : (b.toNat : Int) + 64 ≤ 255 := by omega
  obtain ⟨A, c, rfl, _, _⟩ := own_form' hown
  clear hown h1 h2
  go_enter Try.func19, Try.ntmps19
  go_wp2_with (first
    | (refine wpList_buf rfl (.tmp 41) _ rfl hb.out rfl [94] rfl _ rfl 1 rfl rfl (by simp) (by simp; omega) hbase ?_; intro g cap w2 hb2; have hz2 := hb2.grown.size; have hb2 := Lib.hid hb2)
    | (refine wpList_buf rfl (.tmp 46) _ rfl hb2.out rfl [b + 64] (by show [Value.int .u8 _] = [Value.int .u8 _]; rw [HV.out]) _ rfl 1 rfl rfl (by simp) (by simp; omega) (by omega) ?_; intro g3 cap3 w3 hb3; have hb3 := Lib.hid hb3)
    | fail "NONE")
  go_ret
  exact ⟨_, rfl, by rw [HO.out]; have := hb3.out; rw [List.append_assoc, List.length_append] at this; exact this⟩
set_option maxHeartbeats 4000000 in
set_option maxRecDepth 100000 in
theorem lay_rub (base : Nat) (v : Value) (xs : List UInt8) (ah : Nat) (w : World) (hown : w.ownsRow base 5 1 v xs.length (xs.map u8)) (hbase : base ≤ w.heap.size) (hx : xs.length ≤ 1000000) :
    Calls Try.prog 19 #[v, .int .u8 127, .int .i64 ah] w (LaySays base v xs 127 ah w) := by
  have hb := Lib.hid (Buf.start hown)
  have HO : Hid (ofL 127 ah = [94, 63]) := Lib.hid (by unfold ofL; rfl)
  obtain ⟨A, c, rfl, _, _⟩ := own_form' hown
  clear hown
  go_enter Try.func19, Try.ntmps19
  go_wp2_with (first
    | (refine wpList_buf rfl (.tmp 41) _ rfl hb.out rfl [94] rfl _ rfl 1 rfl rfl (by simp) (by simp; omega) hbase ?_; intro g cap w2 hb2; have hz2 := hb2.grown.size; have hb2 := Lib.hid hb2)
    | (refine wpList_buf rfl (.tmp 46) _ rfl hb2.out rfl [63] rfl _ rfl 1 rfl rfl (by simp) (by simp; omega) (by omega) ?_; intro g3 cap3 w3 hb3; have hb3 := Lib.hid hb3)
    | fail "NONE")
  go_ret
  exact ⟨_, rfl, by rw [HO.out]; have := hb3.out; rw [List.append_assoc, List.length_append] at this; exact this⟩
theorem and7 (n : Nat) (h : n < 256) : bits .and .u8 (n : Int) 7 = ((n % 8 : Nat) : Int) := by
  have := (by decide +kernel : ∀ n : Fin 256, bits .and .u8 ((n.val : Nat) : Int) 7 = ((n.val % 8 : Nat) : Int)) ⟨n, h⟩
  exact this
set_option maxHeartbeats 4000000 in
set_option maxRecDepth 100000 in
theorem lay_high (base : Nat) (v : Value) (xs : List UInt8) (b : UInt8) (ah : Nat) (w : World) (h1 : 127 < b.toNat) (hown : w.ownsRow base 5 1 v xs.length (xs.map u8)) (hbase : base ≤ w.heap.size) (hx : xs.length ≤ 1000000) :
    Calls Try.prog 19 #[v, .int .u8 (b.toNat : Int), .int .i64 ah] w (LaySays base v xs b ah w) := by
  have hb := Lib.hid (Buf.start hown)
  have HO : Hid (ofL b ah = [92, 48 + b / 64, 48 + b / 8 % 8, 48 + b % 8]) := Lib.hid (by unfold ofL; rw [if_neg (by omega), if_neg (by omega), if_neg (by omega), if_pos h1])
  have q1 : ((b.toNat : Int) == 9) = false := by simp; omega
  have q2 : decide (127 < (b.toNat : Int)) = true := by simp; omega
  have hbt := b.toNat_lt
  have HV1 : Hid (((48 + b / 64).toNat : Int) = (48 + (b.toNat : Int) / 64) % 256) := Lib.hid (by rw [UInt8.toNat_add, UInt8.toNat_div]; show (((48 + b.toNat / 64) % 256 : Nat) : Int) = _; omega)
  have HV2 : Hid (((48 + b / 8 % 8).toNat : Int) = (48 + bits .and .u8 ((b.toNat : Int) / 8) 7) % 256) := Lib.hid (by
    have e : (b.toNat : Int) / 8 = ((b.toNat / 8 : Nat) : Int) := by omega
    rw [e, and7 _ (by omega), UInt8.toNat_add, UInt8.toNat_mod, UInt8.toNat_div]; show (((48 + b.toNat / 8 % 8) % 256 : Nat) : Int) = _; omega)
  have HV3 : Hid (((48 + b % 8).toNat : Int) = (48 + bits .and .u8 (b.toNat : Int) 7) % 256) := Lib.hid (by
    rw [and7 _ (by omega), UInt8.toNat_add, UInt8.toNat_mod]; show (((48 + b.toNat % 8) % 256 : Nat) : Int) = _; omega)
  obtain ⟨A, c, rfl, _, _⟩ := own_form' hown
  clear hown h1
  go_enter Try.func19, Try.ntmps19
  clear hbt
  go_wp2_with (refine wpList_buf rfl (.tmp 28) _ rfl hb.out rfl [92, 48 + b / 64, 48 + b / 8 % 8, 48 + b % 8] (by show [Value.int .u8 _, Value.int .u8 _, Value.int .u8 _, Value.int .u8 _] = [Value.int .u8 _, Value.int .u8 _, Value.int .u8 _, Value.int .u8 _]; rw [HV1.out, HV2.out, HV3.out]; rfl) _ rfl 4 rfl rfl (by simp) (by simp; omega) hbase ?_; intro g cap w2 hb2; have hb2 := Lib.hid hb2)
  go_ret
  exact ⟨_, rfl, by rw [HO.out]; exact hb2.out⟩
set_option maxHeartbeats 4000000 in
set_option maxRecDepth 100000 in
theorem lay_tab (base : Nat) (v : Value) (xs : List UInt8) (ah : Nat) (w : World) (hah : ah ≤ 100000000) (hown : w.ownsRow base 5 1 v xs.length (xs.map u8)) (hbase : base ≤ w.heap.size) (hx : xs.length ≤ 1000000) :
    Calls Try.prog 19 #[v, .int .u8 9, .int .i64 ah] w (LaySays base v xs 9 ah w) := by
  have hb := Lib.hid (Buf.start hown)
  have HO : Hid (ofL 9 ah = List.replicate (8 - ah % 8) 32) := Lib.hid (by unfold ofL; exact if_pos rfl)
  obtain ⟨A, c, rfl, _, _⟩ := own_form' hown
  clear hown
  obtain ⟨m, hm⟩ : ∃ m, m = 8 - ah % 8 := ⟨_, rfl⟩
  rw [← hm] at HO
  have hm8 : m ≤ 8 := by omega
  have hmi : 8 - (ah : Int) % 8 = (m : Int) := by omega
  clear hm
  go_enter Try.func19, Try.ntmps19
  go_wp2
  go_loopg [0, 22] m (fun g s0 s22 wr => ∃ j : Nat, j ≤ m ∧ m - j ≤ g ∧ s22 = .int .i64 j ∧ Hid (Buf base (Value.slice A xs.length c).ownBlock w wr s0 (xs ++ List.replicate j 32)))
  case atStart => exact ⟨0, Nat.zero_le _, by omega, rfl, Lib.hid (by rw [List.replicate_zero, List.append_nil]; exact hb.out)⟩
  case round =>
    obtain ⟨j, hj, hg, rfl, HB⟩ := hrel
    obtain ⟨A2, c2, rfl, _, _⟩ := own_form' HB.out.own
    by_cases hlt : j < m
    · have hz2 := HB.out.grown.size
      go_wp2_with (refine wpList_buf rfl (.tmp 24) _ rfl HB.out rfl [32] rfl _ rfl 1 rfl rfl (by simp) (by simp; omega) (by omega) ?_; intro g cap w2 hb2; have hb2 := Lib.hid hb2)
      have HB2 : Hid (Buf base (Value.slice A xs.length c).ownBlock w w2 (Value.slice (some ⟨g, 0, none⟩) ((xs ++ List.replicate j 32).length + 1) cap) (xs ++ List.replicate (j + 1) 32)) := Lib.hid (by
        have := hb2.out
        rw [List.append_assoc, ← List.replicate_succ'] at this
        exact this)
      clear hb2
      go_roundg (m - (j + 1))
      case measure => omega
      case rel => exact ⟨j + 1, by omega, by omega, by go_num, Lib.hid (by have := HB2.out; rw [List.length_append, List.length_replicate] at this; exact this)⟩
    · have hjm : j = m := by omega
      subst hjm
      go_wp2
      go_ret
      exact ⟨_, rfl, by rw [HO.out]; exact HB.out⟩
theorem lay_is (base : Nat) (v : Value) (xs : List UInt8) (b : UInt8) (ah : Nat) (w : World) (hah : ah ≤ 100000000) (hown : w.ownsRow base 5 1 v xs.length (xs.map u8)) (hbase : base ≤ w.heap.size) (hx : xs.length ≤ 1000000) :
    Calls Try.prog 19 #[v, .int .u8 (b.toNat : Int), .int .i64 ah] w (LaySays base v xs b ah w) := by
  by_cases h9 : b.toNat = 9
  · obtain rfl : b = 9 := UInt8.toNat_inj.1 h9
    exact lay_tab base v xs ah w hah hown hbase hx
  by_cases h1 : b.toNat < 32
  · exact lay_low base v xs b ah w h1 h9 hown hbase hx
  by_cases h2 : b.toNat = 127
  · obtain rfl : b = 127 := UInt8.toNat_inj.1 h2
    exact lay_rub base v xs ah w hown hbase hx
  by_cases h3 : 127 < b.toNat
  · exact lay_high base v xs b ah w h3 hown hbase hx
  · exact lay_plain base v xs b ah w (by omega) (by omega) hown hbase hx
end Go.Proofs.Ytmnehlheflfpaaa.wrp
