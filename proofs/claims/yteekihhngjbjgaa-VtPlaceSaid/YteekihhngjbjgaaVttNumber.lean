/- Terminals: a number's digits, and what they say in an escape. -/
import Derived.Test.YteekihhngjbjgaaVttLawKit
namespace Go.Proofs.Yteekihhngjbjgaa.vtt
open Go.RowKit Go.Lib Go.Proofs.Yteekihhngjbjgaa.grd
set_option linter.unusedVariables false
set_option linter.unusedSimpArgs false
set_option linter.unnecessarySimpa false
set_option linter.unusedSectionVars false

def dec (n : Nat) : List UInt8 := if n < 10 then [UInt8.ofNat (48 + n % 10)] else dec (n / 10) ++ [UInt8.ofNat (48 + n % 10)]
termination_by n
decreasing_by omega
theorem dec_lt {n : Nat} (h : n < 10) : dec n = [UInt8.ofNat (48 + n % 10)] := by rw [dec, if_pos h]
theorem dec_ge {n : Nat} (h : ¬ n < 10) : dec n = dec (n / 10) ++ [UInt8.ofNat (48 + n % 10)] := by rw [dec, if_neg h]
theorem dig_nat (n : Nat) : (UInt8.ofNat (48 + n % 10)).toNat = 48 + n % 10 := by
  have : n % 10 < 10 := Nat.mod_lt _ (by omega)
  simp; omega
theorem dec_len (n : Nat) (h : n < 10000) : (dec n).length ≤ 4 := by
  by_cases h1 : n < 10
  · rw [dec_lt h1]; simp
  · rw [dec_ge h1]
    by_cases h2 : n / 10 < 10
    · rw [dec_lt h2]; simp
    · rw [dec_ge h2]
      by_cases h3 : n / 10 / 10 < 10
      · rw [dec_lt h3]; simp
      · rw [dec_ge h3, dec_lt (show n / 10 / 10 / 10 < 10 by omega)]; simp
theorem dec_all (n : Nat) : ∀ c ∈ dec n, 48 ≤ c.toNat ∧ c.toNat ≤ 57 := by
  induction n using Nat.strongRecOn with
  | ind n ih =>
    intro c hc
    have hm : n % 10 < 10 := Nat.mod_lt _ (by omega)
    by_cases h1 : n < 10
    · rw [dec_lt h1, List.mem_singleton] at hc
      rw [hc, dig_nat]; omega
    · rw [dec_ge h1] at hc
      rcases List.mem_append.1 hc with h | h
      · exact ih (n / 10) (by omega) c h
      · rw [List.mem_singleton] at h
        rw [h, dig_nat]; omega
theorem take_dig (p : Pm) (n : Nat) : take p (UInt8.ofNat (48 + n % 10)) = if p.last = 0 then { p with a := num10 p.a (n % 10) } else { p with b := num10 p.b (n % 10) } := by
  have hm : n % 10 < 10 := Nat.mod_lt _ (by omega)
  unfold take
  rw [dig_nat, if_pos (by omega), show 48 + n % 10 - 48 = n % 10 by omega]
theorem fold_a (n : Nat) (h : n ≤ 9999) (b : Nat) (bad : Bool) : (dec n).foldl take ⟨0, b, 0, bad⟩ = ⟨n, b, 0, bad⟩ := by
  induction n using Nat.strongRecOn with
  | ind n ih =>
    by_cases h1 : n < 10
    · rw [dec_lt h1, List.foldl_cons, List.foldl_nil, take_dig, if_pos rfl]
      unfold num10
      have : min (0 * 10 + n % 10) 9999 = n := by omega
      rw [this]
    · rw [dec_ge h1, List.foldl_append, ih (n / 10) (by omega) (by omega), List.foldl_cons, List.foldl_nil, take_dig, if_pos rfl]
      unfold num10
      have : min (n / 10 * 10 + n % 10) 9999 = n := by omega
      rw [this]
theorem fold_b (n : Nat) (h : n ≤ 9999) (a : Nat) (bad : Bool) : (dec n).foldl take ⟨a, 0, 1, bad⟩ = ⟨a, n, 1, bad⟩ := by
  induction n using Nat.strongRecOn with
  | ind n ih =>
    by_cases h1 : n < 10
    · rw [dec_lt h1, List.foldl_cons, List.foldl_nil, take_dig, if_neg (show ¬ (1 : Nat) = 0 by omega)]
      unfold num10
      have : min (0 * 10 + n % 10) 9999 = n := by omega
      rw [this]
    · rw [dec_ge h1, List.foldl_append, ih (n / 10) (by omega) (by omega), List.foldl_cons, List.foldl_nil, take_dig, if_neg (show ¬ (1 : Nat) = 0 by omega)]
      unfold num10
      have : min (n / 10 * 10 + n % 10) 9999 = n := by omega
      rw [this]
theorem digest_two (r c : Nat) (hr : r ≤ 9999) (hc : c ≤ 9999) : digest (dec r ++ 59 :: dec c) = ⟨r, c, 1, false⟩ := by
  unfold digest
  rw [List.foldl_append, show Pm.zero = ⟨0, 0, 0, false⟩ from rfl, fold_a r hr, List.foldl_cons, show take ⟨r, 0, 0, false⟩ 59 = ⟨r, 0, 1, false⟩ from rfl, fold_b c hc]
/-- A byte behind a place that was said. -/
theorem feed_place (s : Ts) (h : s.esc ≤ 2) (r c : Nat) (hr : r ≤ 9999) (hc : c ≤ 9999) :
    feed s ([27, 91] ++ dec r ++ [59] ++ dec c ++ [72, 35]) = ⟨s.n, s.m, setAt s.ls (min (max r 1) s.n - 1) (min (max c 1) s.m - 1) 35, min (max r 1) s.n - 1, min (min (max c 1) s.m - 1 + 1) (s.m - 1), 0, ⟨r, c, 1, false⟩⟩ := by
  have e : [27, 91] ++ dec r ++ [59] ++ dec c ++ [72, 35] = (27 :: 91 :: ((dec r ++ 59 :: dec c) ++ [72])) ++ [35] := by simp
  rw [e, feed_snoc, feed_cmd s h _ (fun d hd => ?_) 72 (by decide) (by decide), digest_two r c hr hc]
  · unfold obey
    rw [if_neg (by simp), if_pos (by decide)]
    rfl
  · rcases List.mem_append.1 hd with h1 | h1
    · have := dec_all r d h1; omega
    · rcases List.mem_cons.1 h1 with rfl | h1
      · decide
      · have := dec_all c d h1; omega
/-- What number's loop has. -/
def Num (n0 n : Nat) (l : List UInt8) : Prop := (n = 0 ∧ l = dec n0) ∨ (0 < n ∧ dec n0 = dec n ++ l)
theorem Num.start (n : Nat) : Num n (n / 10) [UInt8.ofNat (48 + n % 10)] := by
  by_cases h : n < 10
  · exact Or.inl ⟨by omega, (dec_lt h).symm⟩
  · exact Or.inr ⟨by omega, dec_ge h⟩
theorem Num.step {n0 n : Nat} {l : List UInt8} (H : Num n0 n l) (hn : 0 < n) : Num n0 (n / 10) (UInt8.ofNat (48 + n % 10) :: l) := by
  rcases H with ⟨h, _⟩ | ⟨_, h⟩
  · omega
  · by_cases h1 : n < 10
    · exact Or.inl ⟨by omega, by rw [h, dec_lt h1]; rfl⟩
    · exact Or.inr ⟨by omega, by rw [h, dec_ge h1]; simp⟩
theorem Num.fin {n0 : Nat} {l : List UInt8} (H : Num n0 0 l) : l = dec n0 := by
  rcases H with ⟨_, h⟩ | ⟨h, _⟩
  · exact h
  · omega
def Told (l : List UInt8) (w : World) (e : Ending) (w' : World) : Prop := e = .returned (.string (B l)) ∧ Below w.heap.size w w'
theorem conv1 (c : UInt8) (T : TypeId) (W : World) : (convert 39 9 (.slice (some ⟨W.heap.size, 0, none⟩) 1 1)).run Try.prog (W.alloc (.cells #[.int .u8 (c.toNat : Int)] T)) = .ok (.string (B [c])) (W.alloc (.cells #[.int .u8 (c.toNat : Int)] T)) :=
  VRd.conv (lo := 0) (hi := W.heap.size + 1) (l := [c]) (fun _ => ⟨W.heap.size, 0, rfl, Nat.zero_le _, by omega, fun j u hj => by
    match j, hj with
    | 0, hj => exact ((At.new W T #[.int .u8 (c.toNat : Int)]).cell 0).trans (by simpa [u8] using hj)
    | j + 1, hj => simp at hj⟩)
theorem Num.short {n0 n : Nat} {l : List UInt8} (H : Num n0 n l) (h : n0 < 10000) : l.length ≤ 4 := by
  have := dec_len n0 h
  rcases H with ⟨_, h⟩ | ⟨_, h⟩
  · rw [h]; exact this
  · rw [h, List.length_append] at this; omega
/-- A digit's byte, made into a text. -/
theorem conv_dig (n : Nat) (W : World) : ∃ c : UInt8, c = UInt8.ofNat (48 + n % 10) ∧ (convert 39 9 (.slice (some ⟨W.heap.size, 0, none⟩) 1 1)).run Try.prog (W.alloc (.cells #[.int .u8 (48 + (n : Int) % 10)] 5)) = .ok (.string (B [c])) (W.alloc (.cells #[.int .u8 (48 + (n : Int) % 10)] 5)) := by
  refine ⟨_, rfl, ?_⟩
  have e : (48 + (n : Int) % 10) = ((UInt8.ofNat (48 + n % 10)).toNat : Int) := by rw [dig_nat]; omega
  rw [e]
  exact conv1 _ 5 W
set_option maxHeartbeats 4000000 in
set_option maxRecDepth 100000 in
theorem number_is (n : Nat) (hn : n ≤ 9999) (w : World) : Calls Try.prog 21 #[.int .i64 n] w (Told (dec n) w) := by
  obtain ⟨c, hc, hcv⟩ := conv_dig n w
  have ST : Hid (Num n (n / 10) [c]) := Lib.hid (by rw [hc]; exact Num.start n)
  have HB0 : Hid (Below w.heap.size w (w.alloc (.cells #[.int .u8 (48 + (n : Int) % 10)] 5))) := Lib.hid ((Below.refl _ _).alloc (Nat.le_refl _) _)
  obtain ⟨m, hm⟩ : ∃ m, m = n / 10 := ⟨_, rfl⟩
  rw [← hm] at ST
  have hmi : (n : Int) / 10 = (m : Int) := by rw [hm]; rfl
  have hm9 : m ≤ 999 := by omega
  have HN := Lib.hid hn
  clear hc hm hn
  go_enter Try.func21, Try.ntmps21
  go_wp2
  clear hcv hmi
  go_loopg [0, 3] 999 (fun g s0 s3 wr => ∃ (j : Nat) (l : List UInt8), j ≤ 999 ∧ j ≤ g ∧ s0 = .int .i64 j ∧ s3 = .string (B l) ∧ Hid (Num n j l) ∧ Hid (Below w.heap.size w wr))
  case atStart => exact ⟨m, [c], hm9, hm9, rfl, rfl, ST, HB0⟩
  case round =>
    obtain ⟨j, l, hj, hg, rfl, rfl, HK, HB⟩ := hrel
    clear ST HB0 hm9
    by_cases hlt : 0 < j
    · have d1 : decide ((0 : Int) < (j : Int)) = true := by simp; omega
      obtain ⟨c2, hc, hcv⟩ := conv_dig j wr
      obtain ⟨j2, hj2⟩ : ∃ q, q = j / 10 := ⟨_, rfl⟩
      have hmi : (j : Int) / 10 = (j2 : Int) := by rw [hj2]; rfl
      have NX : Hid (Num n j2 (c2 :: l)) := Lib.hid (by rw [hj2, hc]; exact HK.out.step hlt)
      have NB : Hid (Below w.heap.size w (wr.alloc (.cells #[.int .u8 (48 + (j : Int) % 10)] 5))) := Lib.hid (HB.out.alloc HB.out.size _)
      have hj3 : j2 < j := by omega
      have hl4 : l.length ≤ 4 := HK.out.short (by have := HN.out; omega)
      have hs1 : (B [c2]).size = 1 := B_size _
      have hs2 : (B l).size = l.length := B_size _
      have HCAT : Hid (B [c2] ++ B l = B (c2 :: l)) := Lib.hid (by
        apply ByteArray.ext
        simp [ByteArray.data_append])
      clear hc hj2
      go_wp2
      go_roundg j2
      case measure => omega
      case rel => exact ⟨j2, c2 :: l, by omega, by omega, rfl, by rw [HCAT.out], NX, NB⟩
    · obtain rfl : j = 0 := by omega
      have FIN : Hid (l = dec n) := Lib.hid HK.out.fin
      have d0 : decide ((0 : Int) < 0) = false := rfl
      clear HK hlt
      go_wp2
      go_ret
      exact ⟨by rw [← FIN.out]; rfl, HB.out⟩
end Go.Proofs.Yteekihhngjbjgaa.vtt
