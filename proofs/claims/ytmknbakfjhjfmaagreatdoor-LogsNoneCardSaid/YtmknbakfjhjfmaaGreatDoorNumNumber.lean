/- The program's number: what digits say, if they are such as Put tells. -/
import Derived.Test.YtmknbakfjhjfmaaGreatDoorNumPure
import Derived.Test.YtmknbakfjhjfmaaGreatDoorWords
import Derived.Lib.Strings
import Derived.Lib.Walk
import Derived.Lib.ConvBytes
import Derived.Test.YtmknbakfjhjfmaaGreatDoorChecked
import Derived.Lib.ParseIntBMem
import Derived.Lib.Hide
import Derived.Laws.Strings3
import Derived.Laws.Closers25
import Derived.Laws.Closers25b
import Derived.WalkKit
import Derived.BigCall
import Derived.BigGuard
import Derived.LaidEql
import Derived.Stop.Asserts
import Derived.RowKitTokens
import Derived.Test.YtmknbakfjhjfmaaGreatDoorShelf
import Derived.Lib.LaidTab
import Derived.Lib.AppendIntMem
import Derived.Deep.QuietTactic
import Derived.BigQuiet
/-! The document's Put and PutText: the digits, last one first, and a colon. -/
namespace Go.Proofs.YtmknbakfjhjfmaaGreatDoor.num
open Go.RowKit Go.Lib

theorem B_append (a b : List UInt8) : B a ++ B b = B (a ++ b) := by
  show ByteArray.append _ _ = _
  simp [B, ByteArray.append]
theorem B_mk (a : Array UInt8) : (⟨a⟩ : ByteArray) = B a.toList := by simp [B]
theorem size_list (s : ByteArray) : s.data.toList.length = s.size := by rw [Array.length_toList]; rfl
theorem ret_str {a b : ByteArray} (h : a = b) : Ending.returned (.string a) = .returned (.string b) := by rw [h]
/-- Digits, none for 0. -/
def decz (m : Nat) : List UInt8 := if m = 0 then [] else decDigits m
def digOf (m : Nat) : UInt8 := UInt8.ofNat (48 + m % 10)
theorem decz_step (m : Nat) : decDigits m = decz (m / 10) ++ [digOf m] := by
  unfold decz digOf
  by_cases h : m < 10
  · rw [dec_small h, if_pos (by omega), Nat.mod_eq_of_lt h]; rfl
  · rw [dec_big h, if_neg (by omega)]
theorem digOf_nat (m : Nat) : (digOf m).toNat = 48 + m % 10 := dig_byte (m % 10) (by omega)

theorem conv_dig (W : World) (m : Nat) : (convert 83 9 (.slice (some ⟨W.heap.size, 0, none⟩) 1 1)).run Tryz.prog (W.alloc (.cells #[.int .u8 (48 + (m : Int) % 10)] 5)) = .ok (.string (B [digOf m])) (W.alloc (.cells #[.int .u8 (48 + (m : Int) % 10)] 5)) := by
  have h := run_convert_bytes_back (P := Tryz.prog) (W.alloc (.cells #[.int .u8 (48 + (m : Int) % 10)] 5)) 83 9 5 ⟨W.heap.size, 0, none⟩ 1 [digOf m] Tryz.underlying83 Tryz.underlying5 Tryz.underlying9 (fun j hj => by
    obtain rfl : j = 0 := by simpa using hj
    have hb := heap_alloc_new W (.cells #[.int .u8 (48 + (m : Int) % 10)] 5)
    rw [Go.WideShapes.add_plain, cell_of_row _ _ _ _ _ _ hb]
    simp [digOf_nat])
  exact h

end Go.Proofs.YtmknbakfjhjfmaaGreatDoor.num

/-! The document's Get: the digits are gone through, put anew, and held against the text. -/
namespace Go.Proofs.YtmknbakfjhjfmaaGreatDoor.num
open Go.RowKit Go.Lib

/-- The first j bytes are digits, and say acc. -/
def RefAt (l : List UInt8) (j acc : Nat) : Prop := j ≤ l.length ∧ j ≤ 19 ∧ (∀ c ∈ l.take j, isDig c = true) ∧ val 0 (l.take j) = acc ∧ acc ≤ MX
theorem RefAt.start (l : List UInt8) : RefAt l 0 0 := ⟨Nat.zero_le _, by omega, by simp, by rw [List.take_zero, val_nil], by omega⟩
theorem take_snoc {l : List UInt8} {j : Nat} {c : UInt8} (h : l[j]? = some c) : l.take (j + 1) = l.take j ++ [c] := by
  obtain ⟨hj, rfl⟩ := List.getElem?_eq_some_iff.1 h
  exact List.take_succ_eq_append_getElem hj
theorem RefAt.step {l : List UInt8} {j acc : Nat} {c : UInt8} (h : RefAt l j acc) (hc : l[j]? = some c) (hd : isDig c = true) (hj : j < 19) (hm : acc * 10 + (c.toNat - 48) ≤ MX) : RefAt l (j + 1) (acc * 10 + (c.toNat - 48)) := by
  obtain ⟨h1, h2, h3, h4, h5⟩ := h
  refine ⟨(List.getElem?_eq_some_iff.1 hc).1, by omega, ?_, ?_, hm⟩
  · rw [take_snoc hc]
    intro d hd'
    rcases List.mem_append.1 hd' with hd' | hd'
    · exact h3 d hd'
    · simp only [List.mem_singleton] at hd'
      rw [hd']; exact hd
  · rw [take_snoc hc, val_append, h4, val_cons, val_nil]
/-- Digits at the front are the front of the numeral that stands there. -/
theorem digits_front {l x : List UInt8} {n : Nat} (hx : x <+: l) (hd : ∀ c ∈ x, isDig c = true) (hn : putN n <+: l) : x <+: decDigits n := by
  obtain ⟨r, rfl⟩ := hn
  have hlen : x.length ≤ (decDigits n).length := by
    rcases Nat.lt_or_ge (decDigits n).length x.length with h | h
    · exfalso
      obtain ⟨r', hr⟩ := hx
      have h1 : (x ++ r')[(decDigits n).length]? = some 58 := by
        rw [hr]
        unfold putN
        rw [List.append_assoc, List.getElem?_append_right (Nat.le_refl _)]
        simp
      rw [List.getElem?_append_left h] at h1
      have := hd 58 (List.mem_of_getElem? h1)
      exact absurd this (by decide)
    · exact h
  have h2 : decDigits n <+: putN n ++ r := ⟨58 :: r, by unfold putN; simp⟩
  exact List.prefix_of_prefix_length_le hx h2 hlen
theorem RefAt.over {l : List UInt8} {j acc : Nat} {c : UInt8} (h : RefAt l j acc) (hc : l[j]? = some c) (hd : isDig c = true) (hm : MX < acc * 10 + (c.toNat - 48)) : getN l = none := by
  obtain ⟨h1, h2, h3, h4, h5⟩ := h
  rcases hg : getN l with _ | n
  · rfl
  · exfalso
    obtain ⟨hn, hp⟩ := getN_iff.1 hg
    have hx : l.take (j + 1) <+: decDigits n := digits_front (List.take_prefix _ _) (by
      rw [take_snoc hc]
      intro d hd'
      rcases List.mem_append.1 hd' with hd' | hd'
      · exact h3 d hd'
      · simp only [List.mem_singleton] at hd'
        rw [hd']; exact hd) hp
    obtain ⟨r, hr⟩ := hx
    have := congrArg (val 0) hr
    rw [val_append, take_snoc hc, val_append, h4, val_cons, val_nil, dec_val] at this
    have h6 := val_ge r (acc * 10 + (c.toNat - 48))
    omega
theorem RefAt.stop {l : List UInt8} {j acc : Nat} (h : RefAt l j acc) (hs : j = l.length ∨ j = 19 ∨ ∃ c, l[j]? = some c ∧ isDig c = false) (n : Nat) (hg : getN l = some n) : n = acc := by
  obtain ⟨h1, h2, h3, h4, h5⟩ := h
  obtain ⟨hn, hp⟩ := getN_iff.1 hg
  have hx := digits_front (List.take_prefix j l) h3 hp
  have hlen : (decDigits n).length ≤ j := by
    rcases hs with hs | hs | ⟨c, hc, hd⟩
    · have := hp.length_le
      rw [putN_len] at this
      omega
    · have := dec_len19 hn; omega
    · rcases Nat.lt_or_ge j (decDigits n).length with hlt | hge
      · exfalso
        obtain ⟨r, rfl⟩ := hp
        unfold putN at hc
        rw [List.append_assoc, List.getElem?_append_left hlt] at hc
        have := dec_dig n c (List.mem_of_getElem? hc)
        rw [hd] at this
        cases this
      · exact hge
  have hl : (l.take j).length = j := by rw [List.length_take]; omega
  have : l.take j = decDigits n := hx.eq_of_length_le (by omega)
  rw [← h4, this, dec_val]

/-- What is told of a number: it, and the place behind it. -/
def retN (a : Int) : Option Nat → Value
  | none => .tuple #[.int .i64 0, .int .i64 0, .bool false]
  | some n => .tuple #[.int .i64 n, .int .i64 (a + (putN n).length), .bool true]
/-- The number that stands at a place of a text. -/
def atN (l : List UInt8) (a : Int) : Option Nat := if 0 ≤ a ∧ a ≤ l.length then getN (l.drop a.toNat) else none

end Go.Proofs.YtmknbakfjhjfmaaGreatDoor.num

/-! internal/strconv.ParseUint(s, 10, 63), s not empty: what its digits say; or that they say none; or too great a one. -/
namespace Go.Proofs.YtmknbakfjhjfmaaGreatDoor.num
open Go.RowKit

/-- internal/strconv.lower: a byte with 32 set. -/
theorem lower50 (n : Int) (w : World) :
    Calls Tryz.prog 171 #[.int .u8 n] w fun e w' => e = .returned (.int .u8 (bits .or .u8 n 32)) ∧ w' = w := by
  go_enter Tryz.func171, Tryz.ntmps171
  go_wp2
  go_ret
  exact ⟨rfl, rfl⟩

set_option maxHeartbeats 32000000 in
set_option maxRecDepth 100000 in
theorem parse41 (t : ByteArray) (hne : t.size ≠ 0) (hmax : t.size ≤ 9223372036854775806) (w : World) :
    Calls Tryz.prog 169 #[.string t, .int .i64 10, .int .i64 63] w fun e w' => e = .returned (Lib.uintTupleM 231 9223372036854775807 (Lib.parseUintM 9223372036854775807 0 t.data.toList)) ∧ w' = Lib.bytesWorld w 5 t := by
  have hemp : t.toList.isEmpty = false := by
    rw [← decide_eq_emptyBytes]
    exact decide_eq_false (fun h => hne (by rw [h]; rfl))
  have hcv := Lib.run_convert_string_bytes (P := Tryz.prog) w 9 83 5 t (u := .string) Tryz.underlying9 Tryz.underlying83 Tryz.underlying5
  have hB : ∀ j, j < t.size → (Lib.bytesWorld w 5 t).cell? ⟨w.heap.size, j, none⟩ = some (.int .u8 (t.data.toList.getD j 0).toNat) := fun j hj => Lib.bytesWorld_cell w 5 t j hj
  obtain ⟨W1, hW1⟩ : ∃ W1, W1 = Lib.bytesWorld w 5 t := ⟨_, rfl⟩
  rw [← hW1] at hcv hB ⊢
  clear hW1
  obtain ⟨bs, hL⟩ : ∃ bs, bs = t.data.toList := ⟨_, rfl⟩
  have hLn : bs.length = t.size := by rw [hL, Lib.size_eq]
  rw [← hL] at hB ⊢
  clear hL
  have hmv : IntKind.u64.wrap (IntKind.u64.wrap 9223372036854775808 - 1) = 9223372036854775807 := by
    rw [IntKind.wrap_u64, IntKind.wrap_u64]
    decide
  go_enter Tryz.func169, Tryz.ntmps169
  go_wp2
  go_loop [12, 13, 101] (fun vu vn vi => ∃ (k acc : Nat) (a : Int), vu = .bool false ∧ vn = .int .u64 a ∧ vi = .int .i64 k ∧ k ≤ t.size ∧ Hid (a = (acc : Int) ∧ acc ≤ 9223372036854775807 ∧ Lib.parseUintM 9223372036854775807 0 bs = Lib.parseUintM 9223372036854775807 acc (bs.drop k)))
    (fun _ _ vi => t.size - (intOf vi).toNat)
  case atStart => exact ⟨0, 0, 0, rfl, rfl, rfl, by omega, rfl, by omega, rfl⟩
  case round =>
    obtain ⟨k, acc, a, rfl, rfl, rfl, hk, hh⟩ := hrel
    obtain ⟨ha, hacc, hdec⟩ := hh.out
    clear hh
    have a0 : 0 ≤ a := by omega
    have a1 : a ≤ 9223372036854775807 := by omega
    by_cases hkn : k < t.size
    · have hc := hB k hkn
      have hdrop : bs.drop k = bs[k]'(by omega) :: bs.drop (k + 1) := List.drop_eq_getElem_cons (by omega)
      have hget : bs.getD k 0 = bs[k]'(by omega) := by simp [List.getD, List.getElem?_eq_getElem (show k < bs.length by omega)]
      rw [hdrop] at hdec
      rw [hget] at hc
      generalize bs[k]'(by omega) = c at hc hdec
      have hc256 : c.toNat < 256 := c.toNat_lt
      clear hB hdrop hget
      by_cases hdig : 48 ≤ c.toNat ∧ c.toNat ≤ 57
      · obtain ⟨hd0, hd1⟩ := hdig
        by_cases hcut : 1844674407370955162 ≤ acc
        · have hF : Lib.parseUintM 9223372036854775807 acc (c :: bs.drop (k + 1)) = .range := by simp [Lib.parseUintM, hd0, hd1, hcut]
          rw [hF] at hdec
          have icut : 1844674407370955162 ≤ a := by omega
          clear hcut hacc hF ha
          go_wp2
          go_ret2
          exact ⟨rfl, rfl⟩
        · by_cases hov : 18446744073709551616 ≤ acc * 10 + (c.toNat - 48)
          · have hF : Lib.parseUintM 9223372036854775807 acc (c :: bs.drop (k + 1)) = .range := by
              have : 9223372036854775807 < acc * 10 + (c.toNat - 48) := by omega
              simp [Lib.parseUintM, hd0, hd1, hcut, this]
            rw [hF] at hdec
            have icut : a < 1844674407370955162 := by omega
            have iov : 18446744073709551616 ≤ a * 10 + ((c.toNat : Int) - 48) := by omega
            have hwr : IntKind.u64.wrap (a * 10 + ((c.toNat : Int) - 48)) = a * 10 + ((c.toNat : Int) - 48) - 18446744073709551616 := by
              rw [IntKind.wrap_u64]
              omega
            clear hcut hacc hF hov ha
            go_wp2
            go_ret2
            exact ⟨rfl, rfl⟩
          · by_cases hom : 9223372036854775807 < acc * 10 + (c.toNat - 48)
            · have hF : Lib.parseUintM 9223372036854775807 acc (c :: bs.drop (k + 1)) = .range := by simp [Lib.parseUintM, hd0, hd1, hcut, hom]
              rw [hF] at hdec
              have icut : a < 1844674407370955162 := by omega
              have iov : a * 10 + ((c.toNat : Int) - 48) < 18446744073709551616 := by omega
              have iom : 9223372036854775807 < a * 10 + ((c.toNat : Int) - 48) := by omega
              clear hcut hacc hF hov hom ha
              go_wp2
              go_ret2
              exact ⟨rfl, rfl⟩
            · have hF : Lib.parseUintM 9223372036854775807 acc (c :: bs.drop (k + 1)) = Lib.parseUintM 9223372036854775807 (acc * 10 + (c.toNat - 48)) (bs.drop (k + 1)) := by simp [Lib.parseUintM, hd0, hd1, hcut, hom]
              have HN : Hid (a * 10 + ((c.toNat : Int) - 48) = ((acc * 10 + (c.toNat - 48) : Nat) : Int) ∧ acc * 10 + (c.toNat - 48) ≤ 9223372036854775807 ∧ Lib.parseUintM 9223372036854775807 0 bs = Lib.parseUintM 9223372036854775807 (acc * 10 + (c.toNat - 48)) (bs.drop (k + 1))) := Lib.hid ⟨by omega, by omega, hdec.trans hF⟩
              have icut : a < 1844674407370955162 := by omega
              have iom : a * 10 + ((c.toNat : Int) - 48) ≤ 9223372036854775807 := by omega
              clear hcut hacc hF hov hom hdec ha
              go_wp2
              refine ⟨⟨k + 1, acc * 10 + (c.toNat - 48), a * 10 + ((c.toNat : Int) - 48), rfl, (by first | rfl | (congr 1; omega)), (by first | rfl | (congr 1; omega)), by omega, HN⟩, by simp [intOf]; omega⟩
      · have hF : Lib.uintTupleM 231 9223372036854775807 (Lib.parseUintM 9223372036854775807 acc (c :: bs.drop (k + 1))) = .tuple #[.int .u64 0, .iface 231 (.int .i64 2)] := by simp [Lib.parseUintM, hdig, Lib.uintTupleM]
        have HT : Hid (Lib.uintTupleM 231 9223372036854775807 (Lib.parseUintM 9223372036854775807 0 bs) = .tuple #[.int .u64 0, .iface 231 (.int .i64 2)]) := Lib.hid (by rw [hdec]; exact hF)
        clear hacc hF ha hdec
        have hv0 := bits_lo_u8 .or (c.toNat : Int) 32
        have hv1 := bits_hi_u8 .or (c.toNat : Int) 32
        have hu0 := bits_lo_u8 .or 95 32
        have hu1 := bits_hi_u8 .or 95 32
        go_wp2_with (go_at_call 171; refine (lower50 _ _).mono ?_; rintro e w' ⟨rfl, rfl⟩)
        all_goals go_ret2
        all_goals exact ⟨by rw [HT.out]; rfl, rfl⟩
    · have hkk : k = t.size := by omega
      subst hkk
      have hF : Lib.parseUintM 9223372036854775807 acc (bs.drop t.size) = .ok acc := by rw [List.drop_eq_nil_of_le (by omega)]; rfl
      rw [hF] at hdec
      subst ha
      clear hacc hF a0 a1
      go_wp2
      go_ret2
      exact ⟨rfl, rfl⟩


set_option maxHeartbeats 1000000 in
set_option maxRecDepth 100000 in
theorem parse41_empty (w : World) :
    Calls Tryz.prog 169 #[.string ⟨#[]⟩, .int .i64 10, .int .i64 63] w fun e w' => e = .returned (.tuple #[.int .u64 0, .iface 231 (.int .i64 2)]) ∧ w' = w := by
  go_enter Tryz.func169, Tryz.ntmps169
  go_wp2
  go_ret2
  exact ⟨rfl, rfl⟩
end Go.Proofs.YtmknbakfjhjfmaaGreatDoor.num

/-! errors.Is by its contracts, for what ParseUint hands it: nil, or a *strconv.NumError that holds one of the two sentinels. -/
namespace Go.Proofs.YtmknbakfjhjfmaaGreatDoor.num
open Go.RowKit Go.Extern.Stop Go.Stop Go.Extern

theorem isTypeOf (v : Value) (w : World) : (Extern.ReflectliteType.typeOf #[.iface 239 v]).run Tryz.prog w = .ok (.iface 146 (.agg #[.pointer (some ⟨7, 239, none⟩)])) w := by kernel_rfl
def cmpM : Array Value → Sem Value := Extern.ReflectliteType.method fun t => do Rtype.noPackHeld "Comparable" t; pure (.bool (← typeInfo t).comparable)
theorem isComparable (w : World) : (cmpM #[.agg #[.pointer (some ⟨7, 239, none⟩)]]).run Tryz.prog w = .ok (.bool true) w := by kernel_rfl
theorem isMethodComparable (v : Value) (w : World) : (Go.method (368) 146 v "Comparable").run Tryz.prog w = .ok (205, v) w := by kernel_rfl
theorem isComp : (Tryz.prog.info? 239).map (·.comparable) = some true := by kernel_rfl
theorem isSize : (Tryz.prog.info? 241).map (·.size) = some 1 := by kernel_rfl
theorem noIsE (v : Value) (xT : TypeId) (w : World) : (Instr.typeAssert (.iface 239 v) xT 148 true).run Tryz.prog w = .ok (.tuple #[.nilIface, .bool false]) w := run_typeAssert_lacksB Tryz.underlying148 (by kernel_rfl) (by kernel_rfl) v xT w
theorem noUnwrapE (v : Value) (xT : TypeId) (w : World) : (Instr.typeAssert (.iface 239 v) xT 150 true).run Tryz.prog w = .ok (.tuple #[.nilIface, .bool false]) w := run_typeAssert_lacksB Tryz.underlying150 (by kernel_rfl) (by kernel_rfl) v xT w
theorem noUnwrapsE (v : Value) (xT : TypeId) (w : World) : (Instr.typeAssert (.iface 239 v) xT 152 true).run Tryz.prog w = .ok (.tuple #[.nilIface, .bool false]) w := run_typeAssert_lacksB Tryz.underlying152 (by kernel_rfl) (by kernel_rfl) v xT w
theorem noIsN (v : Value) (xT : TypeId) (w : World) : (Instr.typeAssert (.iface 233 v) xT 148 true).run Tryz.prog w = .ok (.tuple #[.nilIface, .bool false]) w := run_typeAssert_lacksB Tryz.underlying148 (by kernel_rfl) (by kernel_rfl) v xT w
theorem hasUnwrapN (v : Value) (xT : TypeId) (w : World) : (Instr.typeAssert (.iface 233 v) xT 150 true).run Tryz.prog w = .ok (.tuple #[.iface 233 v, .bool true]) w := run_typeAssert_hasB Tryz.underlying150 (by kernel_rfl) v xT w
theorem methodUnwrap (v : Value) (w : World) : (Go.method (368) 233 v "Unwrap").run Tryz.prog w = .ok (217, v) w := by kernel_rfl

/-- errors.Is(nil, x). -/
theorem is_nil (b : Addr) (w : World) :
    Calls Tryz.prog 42 #[.nilIface, .iface 239 (.pointer (some b))] w fun e w' => e = .returned (.bool false) ∧ w = w' := by
  have hn := run_eql_iface_nil_left (P := Tryz.prog) w 239 (.pointer (some b)) Tryz.underlying53
  go_enter Tryz.func42, Tryz.ntmps42
  go_wp2
  go_ret
  exact ⟨rfl, rfl⟩

/-- errors.Is(e, x), e a *NumError that holds x itself. -/
theorem is_num_same (N : Nat) (b : Addr) (w : World) (h1 : w.cell? ⟨N, 2, none⟩ = some (.iface 239 (.pointer (some b)))) :
    Calls Tryz.prog 42 #[.iface 233 (.pointer (some ⟨N, 0, none⟩)), .iface 239 (.pointer (some b))] w fun e w' => e = .returned (.bool true) ∧ w = w' := by
  obtain ⟨i, hi, hcmp⟩ := Option.map_eq_some_iff.1 isComp
  obtain ⟨j, hj, hjs⟩ := Option.map_eq_some_iff.1 isSize
  have h8 := @run_callFunc_extern Tryz.prog 68 _ Extern.ReflectliteType.typeOf Tryz.func68 (by kernel_rfl) (by kernel_rfl) (by kernel_rfl) (by kernel_rfl)
  have h32 := @run_callFunc_extern Tryz.prog 205 _ cmpM Tryz.func205 (by kernel_rfl) (by kernel_rfl) (by kernel_rfl) (by kernel_rfl)
  have tT := isTypeOf
  have cT := isComparable
  have mR := isMethodComparable
  have nE := noIsE
  have uE := noUnwrapE
  have vE := noUnwrapsE
  have nW := noIsN
  have uW := hasUnwrapN
  have mU := methodUnwrap
  have heq := run_eql_iface_ptr_same (P := Tryz.prog) w b Tryz.underlying53 Tryz.underlying239 hi hcmp hj
  have hty := run_eql_iface_types (P := Tryz.prog) 233 239 (.pointer (some ⟨N, 0, none⟩)) (.pointer (some b)) Tryz.underlying53 (by decide) w
  go_enter Tryz.func42, Tryz.ntmps42
  go_wp2
  refine wp_loop_rounds 2 ?_
  rw [rounds_succ]
  go_wp2
  rw [rounds_succ]
  go_wp2
  go_ret
  exact ⟨rfl, rfl⟩

/-- errors.Is(e, x), e a *NumError that holds another sentinel. -/
theorem is_num_other (N : Nat) (b a : Addr) (ca cb : Array Value) (ta tb : TypeId) (w : World) (h1 : w.cell? ⟨N, 2, none⟩ = some (.iface 239 (.pointer (some a)))) (hne : a ≠ b) (ha : w.heap[a.block]? = some (.cells ca ta (0, 0))) (hb : w.heap[b.block]? = some (.cells cb tb (0, 0))) :
    Calls Tryz.prog 42 #[.iface 233 (.pointer (some ⟨N, 0, none⟩)), .iface 239 (.pointer (some b))] w fun e w' => e = .returned (.bool false) ∧ w = w' := by
  obtain ⟨i, hi, hcmp⟩ := Option.map_eq_some_iff.1 isComp
  obtain ⟨j, hj, hjs⟩ := Option.map_eq_some_iff.1 isSize
  have h8 := @run_callFunc_extern Tryz.prog 68 _ Extern.ReflectliteType.typeOf Tryz.func68 (by kernel_rfl) (by kernel_rfl) (by kernel_rfl) (by kernel_rfl)
  have h32 := @run_callFunc_extern Tryz.prog 205 _ cmpM Tryz.func205 (by kernel_rfl) (by kernel_rfl) (by kernel_rfl) (by kernel_rfl)
  have tT := isTypeOf
  have cT := isComparable
  have mR := isMethodComparable
  have nE := noIsE
  have uE := noUnwrapE
  have vE := noUnwrapsE
  have nW := noIsN
  have uW := hasUnwrapN
  have mU := methodUnwrap
  have heq := run_eql_iface_ptr_other (P := Tryz.prog) w Tryz.underlying53 Tryz.underlying239 hi hcmp hj (by rw [hjs]; decide) hne ha hb
  have hty := run_eql_iface_types (P := Tryz.prog) 233 239 (.pointer (some ⟨N, 0, none⟩)) (.pointer (some b)) Tryz.underlying53 (by decide) w
  go_enter Tryz.func42, Tryz.ntmps42
  go_wp2
  refine wp_loop_rounds 2 ?_
  rw [rounds_succ]
  go_wp2
  rw [rounds_succ]
  go_wp2
  go_ret
  exact ⟨rfl, rfl⟩
end Go.Proofs.YtmknbakfjhjfmaaGreatDoor.num

/-! The program's number: what digits say, if they are such as Put tells. -/
namespace Go.Proofs.YtmknbakfjhjfmaaGreatDoor.num
open Go.RowKit Go.Lib

/-- What the package-level variables hold, below block n₀. -/
def Vars (n₀ : Nat) (w : World) : Prop :=
  (3 < n₀ ∧ 4 < n₀ ∧ 1 < n₀) ∧ Lib.TabIs Tryz.prog w "internal/strconv.uint64pow10" .u64 Lib.pow10Tab ∧
  ∃ (aS aR : Addr) (cS cR : Array Value) (tS tR : TypeId), w.cell? ⟨3, 0, none⟩ = some (.iface 239 (.pointer (some aS))) ∧ w.cell? ⟨4, 0, none⟩ = some (.iface 239 (.pointer (some aR))) ∧
    aS ≠ aR ∧ aS.block < n₀ ∧ aR.block < n₀ ∧ w.heap[aS.block]? = some (.cells cS tS (0, 0)) ∧ w.heap[aR.block]? = some (.cells cR tR (0, 0))
theorem gTab : Tryz.prog.globalNamed "internal/strconv.uint64pow10" = some 1 := by kernel_rfl
theorem Vars.below {n₀ : Nat} {w w' : World} (h : Vars n₀ w) (hB : Below n₀ w w') : Vars n₀ w' := by
  obtain ⟨h6, ht, aS, aR, cS, cR, tS, tR, h0, h1, hne, b0, b1, c0, c1⟩ := h
  refine ⟨h6, ?_, aS, aR, cS, cR, tS, tR, ?_, ?_, hne, b0, b1, ?_, ?_⟩
  · unfold Lib.TabIs World.var? at ht ⊢
    rw [gTab] at ht ⊢
    simp only [Option.bind_some] at ht ⊢
    rw [hB.block 1 (by omega)]
    exact ht
  · exact (hB.cell (p := ⟨3, 0, none⟩) (show 3 < n₀ by omega)).trans h0
  · exact (hB.cell (p := ⟨4, 0, none⟩) (show 4 < n₀ by omega)).trans h1
  · exact (hB.block _ b0).trans c0
  · exact (hB.block _ b1).trans c1
theorem Vars.more {n₀ n₁ : Nat} {w : World} (h : Vars n₀ w) (hn : n₀ ≤ n₁) : Vars n₁ w := by
  obtain ⟨h6, ht, aS, aR, cS, cR, tS, tR, h0, h1, hne, b0, b1, c0, c1⟩ := h
  exact ⟨by omega, ht, aS, aR, cS, cR, tS, tR, h0, h1, hne, by omega, by omega, c0, c1⟩
theorem Vars.next {w w' : World} (h : Vars w.heap.size w) (hB : Below w.heap.size w w') : Vars w'.heap.size w' := (h.below hB).more hB.size

theorem below_bytes (w : World) (s : ByteArray) : Below w.heap.size w (Lib.bytesWorld w 5 s) := Lib.bytesWorld_below _ _ _

/-- internal/strconv.ParseUint at 63 bits, of any text. -/
theorem parseAll41 (t : ByteArray) (hmax : t.size ≤ 9223372036854775806) (w : World) :
    Calls Tryz.prog 169 #[.string t, .int .i64 10, .int .i64 63] w fun e w' => e = .returned (Lib.uintTupleM 231 9223372036854775807 (Lib.parseUintB 63 t.data.toList)) ∧ Below w.heap.size w w' := by
  have eM : (2 : Nat) ^ 63 - 1 = 9223372036854775807 := by decide
  by_cases h0 : t.size = 0
  · have ht : t = ⟨#[]⟩ := by
      apply ByteArray.ext
      exact Array.eq_empty_of_size_eq_zero h0
    subst ht
    exact (parse41_empty w).mono fun e w' ⟨he, hw⟩ => ⟨he, by rw [hw]; exact Below.refl _ _⟩
  · have hne : t.data.toList ≠ [] := fun h => h0 (by rw [Lib.size_eq, h]; rfl)
    refine (parse41 t h0 hmax w).mono fun e w' ⟨he, hw⟩ => ⟨?_, by rw [hw]; exact below_bytes _ _⟩
    rw [he, Lib.parseUintB, if_neg hne, eM]

/-- What strconv.ParseUint hands back: the number; or an error that holds one of the two sentinels. -/
def UintSays (s : ByteArray) (aS aR : Addr) (w : World) (e : Ending) (w' : World) : Prop :=
  Below w.heap.size w w' ∧
  match Lib.parseUintB 63 s.data.toList with
  | .ok u => e = .returned (.tuple #[.int .u64 u, .nilIface])
  | .range => ∃ N, e = .returned (.tuple #[.int .u64 9223372036854775807, .iface 233 (.pointer (some ⟨N, 0, none⟩))]) ∧ w'.cell? ⟨N, 2, none⟩ = some (.iface 239 (.pointer (some aR)))
  | _ => ∃ N, e = .returned (.tuple #[.int .u64 0, .iface 233 (.pointer (some ⟨N, 0, none⟩))]) ∧ w'.cell? ⟨N, 2, none⟩ = some (.iface 239 (.pointer (some aS)))

set_option maxHeartbeats 4000000 in
set_option maxRecDepth 100000 in
theorem uint35 (s : ByteArray) (hlim : s.size ≤ 281474976710656) (aS aR : Addr) (w : World) (h6 : 3 < w.heap.size ∧ 4 < w.heap.size) (hS : w.cell? ⟨3, 0, none⟩ = some (.iface 239 (.pointer (some aS)))) (hR : w.cell? ⟨4, 0, none⟩ = some (.iface 239 (.pointer (some aR)))) :
    Calls Tryz.prog 163 #[.string s, .int .i64 10, .int .i64 63] w (UintSays s aS aR w) := by
  have hI := parseAll41 s (by omega) w
  unfold UintSays
  rcases h : Lib.parseUintB 63 s.data.toList with u | _ | _
  · rw [h] at hI
    have hI : Calls Tryz.prog 169 #[.string s, .int .i64 10, .int .i64 63] w fun e w' => e = .returned (.tuple #[.int .u64 u, .nilIface]) ∧ Below w.heap.size w w' := hI
    clear h
    go_enter Tryz.func163, Tryz.ntmps163
    go_wp2_with (go_at_call 169; refine hI.mono ?_; rintro e W1 ⟨rfl, hW⟩)
    go_wp2
    go_ret2
    exact ⟨hW, rfl⟩
  · rw [h] at hI
    have hI : Calls Tryz.prog 169 #[.string s, .int .i64 10, .int .i64 63] w fun e w' => e = .returned (.tuple #[.int .u64 0, .iface 231 (.int .i64 2)]) ∧ Below w.heap.size w w' := hI
    clear h
    go_enter Tryz.func163, Tryz.ntmps163
    go_wp2_with (go_at_call 169; refine hI.mono ?_)
    rintro e W1 ⟨rfl, hb1⟩
    have hv1 : W1.cell? ⟨3, 0, none⟩ = some (.iface 239 (.pointer (some aS))) := (hb1.cell (p := ⟨3, 0, none⟩) (show 3 < w.heap.size by omega)).trans hS
    go_wp2_with fail
    go_at_call 170
    refine (Tryz.strconv_toError_syntax ⟨#[80, 97, 114, 115, 101, 85, 105, 110, 116]⟩ s 10 63 _ _ hlim hv1 (.inr ⟨_, _, rfl⟩)).mono ?_
    rintro e W2 ⟨N, rfl, h1, h2, h3⟩
    have hc : W2.cell? ⟨N, 2, none⟩ = some (.iface 239 (.pointer (some aS))) := by rw [cell_of_row _ _ _ _ _ _ h2]; rfl
    have HC := Lib.hid hc
    clear hc h2 hv1
    go_wp2
    go_ret2
    exact ⟨hb1.trans (h3.mono hb1.size), N, rfl, HC.out⟩
  · rw [h] at hI
    have hI : Calls Tryz.prog 169 #[.string s, .int .i64 10, .int .i64 63] w fun e w' => e = .returned (.tuple #[.int .u64 9223372036854775807, .iface 231 (.int .i64 1)]) ∧ Below w.heap.size w w' := hI
    clear h
    go_enter Tryz.func163, Tryz.ntmps163
    go_wp2_with (go_at_call 169; refine hI.mono ?_)
    rintro e W1 ⟨rfl, hb1⟩
    have hv1 : W1.cell? ⟨4, 0, none⟩ = some (.iface 239 (.pointer (some aR))) := (hb1.cell (p := ⟨4, 0, none⟩) (show 4 < w.heap.size by omega)).trans hR
    go_wp2_with fail
    go_at_call 170
    refine (Tryz.strconv_toError_range ⟨#[80, 97, 114, 115, 101, 85, 105, 110, 116]⟩ s 10 63 _ _ hlim hv1 (.inr ⟨_, _, rfl⟩)).mono ?_
    rintro e W2 ⟨N, rfl, h1, h2, h3⟩
    have hc : W2.cell? ⟨N, 2, none⟩ = some (.iface 239 (.pointer (some aR))) := by rw [cell_of_row _ _ _ _ _ _ h2]; rfl
    have HC := Lib.hid hc
    clear hc h2 hv1
    go_wp2
    go_ret2
    exact ⟨hb1.trans (h3.mono hb1.size), N, rfl, HC.out⟩
end Go.Proofs.YtmknbakfjhjfmaaGreatDoor.num
