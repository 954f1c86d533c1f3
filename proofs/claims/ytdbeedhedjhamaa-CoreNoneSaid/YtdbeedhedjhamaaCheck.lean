/- lines.Check: may lines be those of a buffer; the program's answer as a number. -/
import Derived.Test.YtdbeedhedjhamaaCut
import Derived.Test.YtdbeedhedjhamaaShelf
namespace Go.Proofs.Ytdbeedhedjhamaa
open Go.RowKit Go.Shelf Go.Lib

/-- Has a text a byte 10? -/
def nl (s : ByteArray) : Bool := decide (0 ≤ Lib.indexByte s.data.toList 10)
/-- Is a text longer than a line may be? -/
def long (s : ByteArray) : Bool := decide (1000 < s.size)
/-- The answer: 2: an argument; 3: too long; 0: none. -/
def chk (zs : List ByteArray) : Int := if zs.any nl then 2 else if 2000 < zs.length ∨ zs.any long then 3 else 0

theorem nl_iff (s : ByteArray) : nl s = true ↔ (10 : UInt8) ∈ s.data.toList := by
  unfold nl
  rw [decide_eq_true_iff]
  rcases index_cases s.data.toList 10 with h | ⟨o, _, h⟩
  · rw [h]
    refine ⟨fun h => absurd h (by omega), fun hm => ?_⟩
    obtain ⟨k, hk⟩ := List.getElem?_of_mem hm
    exact absurd hk (Lib.indexByte_none h k)
  · rw [h]
    exact ⟨fun _ => List.mem_of_getElem? (Lib.indexByte_some h).1, fun _ => by omega⟩

theorem pred29 (w : World) : PredAt Try.prog 57 #[] Value.string nl w := fun W x _ => by
  show Calls Try.prog 57 #[.string x] W fun e w' => e = .returned (.bool (nl x)) ∧ ∃ q, w' = W.drewN q
  go_enter Try.func57, Try.ntmps57
  go_wp2_with (go_at_call 66; refine (contains38 _ _ _).mono ?_; rintro e w' ⟨rfl, rfl⟩)
  go_ret
  exact ⟨rfl, 0, rfl⟩

theorem pred30 (w : World) : PredAt Try.prog 58 #[] Value.string long w := fun W x _ => by
  show Calls Try.prog 58 #[.string x] W fun e w' => e = .returned (.bool (long x)) ∧ ∃ q, w' = W.drewN q
  unfold long
  by_cases h : 1000 < x.size
  all_goals
    go_enter Try.func58, Try.ntmps58
    go_wp2
    go_ret
    refine ⟨?_, 0, rfl⟩
    simp [h]
    omega

theorem contains28 (g : Nat) (p : ByteArray → Bool) (eg : ∀ args w, (callFunc g args).run Try.prog w = .ok (.enter g args) w) (A : Option Addr) (c n n₀ : Nat) (zs : List ByteArray) (w : World) (hp : PredAt Try.prog g #[] Value.string p w) (hn : n = zs.length) (hb : n ≤ 9223372036854775807) (h : SRd w n₀ A zs) :
    Calls Try.prog 56 #[.slice A n c, .func (.func g) #[] #[]] w fun e w' => e = .returned (.bool (zs.any p)) ∧ ∃ q, w' = w.drewN q := by
  rcases Nat.eq_zero_or_pos n with h0 | h0
  · subst h0
    obtain rfl : zs = [] := List.eq_nil_of_length_eq_zero hn.symm
    refine (Try.slices_ContainsFunc_empty (α := ByteArray) A c _ w).mono ?_
    rintro e w' ⟨rfl, rfl⟩
    exact ⟨rfl, 0, rfl⟩
  · obtain ⟨b, off, rfl, _, hc⟩ := h (by omega)
    refine (Try.slices_ContainsFunc Value.string p g #[] eg b off n c zs w hp (by omega) hb (fun j hj => by rw [hc j hj]; simp [List.getD, List.getElem?_eq_getElem hj])).mono ?_
    rintro e w' ⟨rfl, q, rfl⟩
    refine ⟨?_, q, rfl⟩
    rw [hn, List.take_length]

set_option maxHeartbeats 1000000 in
set_option maxRecDepth 100000 in
theorem check18 (A : Option Addr) (c n n₀ : Nat) (zs : List ByteArray) (w : World) (hn : n = zs.length) (hb : n ≤ 9223372036854775807) (h : SRd w n₀ A zs) :
    Calls Try.prog 41 #[.slice A n c] w fun e w' => e = .returned (.int .i64 (chk zs)) ∧ ∃ q, w' = w.drewN q := by
  have C1 := Lib.hid (fun W (hp : PredAt Try.prog 57 #[] Value.string nl W) (hs : SRd W n₀ A zs) => contains28 57 nl (enters_of Try.func57 (by kernel_rfl) rfl) A c n n₀ zs W hp hn hb hs)
  have C2 := Lib.hid (fun W (hp : PredAt Try.prog 58 #[] Value.string long W) (hs : SRd W n₀ A zs) => contains28 58 long (enters_of Try.func58 (by kernel_rfl) rfl) A c n n₀ zs W hp hn hb hs)
  have HN := Lib.hid hn
  have HS := Lib.hid h
  clear hn h
  obtain ⟨b1, hb1⟩ : ∃ b, zs.any nl = b := ⟨_, rfl⟩
  obtain ⟨b2, hb2⟩ : ∃ b, zs.any long = b := ⟨_, rfl⟩
  have K1 := Lib.hid hb1
  have K2 := Lib.hid hb2
  clear hb1 hb2
  cases b1
  · by_cases hl : 2000 < n
    · go_enter Try.func41, Try.ntmps41
      go_wp2_with (go_at_call 56; refine (C1.out _ (pred29 _) HS.out).mono ?_; rw [K1.out]; rintro e w' ⟨rfl, q, rfl⟩)
      go_ret
      refine ⟨ret_int ?_, q, rfl⟩
      unfold chk; rw [K1.out, ← HN.out, if_neg (by simp), if_pos (.inl hl)]
    · cases b2
      all_goals
        go_enter Try.func41, Try.ntmps41
        go_wp2_with fail
        go_at_call 56
        refine (C1.out _ (pred29 _) HS.out).mono ?_
        rw [K1.out]
        rintro e w' ⟨rfl, q, rfl⟩
        go_wp2_with fail
        go_at_call 56
        refine (C2.out _ (pred30 _) (HS.out.drewN q)).mono ?_
        rw [K2.out]
        rintro e w' ⟨rfl, q2, rfl⟩
        go_wp2
        go_ret
        refine ⟨ret_int ?_, q + q2, rfl⟩
        unfold chk; rw [K1.out, K2.out, ← HN.out, if_neg (by simp)]
        first | rw [if_pos (.inr rfl)] | rw [if_neg (by simp; omega)]
  · go_enter Try.func41, Try.ntmps41
    go_wp2_with (go_at_call 56; refine (C1.out _ (pred29 _) HS.out).mono ?_; rw [K1.out]; rintro e w' ⟨rfl, q, rfl⟩)
    go_ret
    refine ⟨ret_int ?_, q, rfl⟩
    unfold chk; rw [K1.out, if_pos rfl]

theorem check18_b (A : Option Addr) (c n : Nat) (zs : List ByteArray) (w : World) (k : Int) (hn : n = zs.length) (hb : n ≤ 100000) (hk : chk zs = k) (h : SRd w w.heap.size A zs) :
    Calls Try.prog 41 #[.slice A n c] w fun e w' => e = .returned (.int .i64 k) ∧ Below w.heap.size w w' := by
  subst hk
  refine (check18 A c n _ zs w hn (by omega) h).mono ?_
  rintro e w' ⟨rfl, q, rfl⟩
  exact ⟨rfl, below_drewN (Below.refl _ w) _⟩
end Go.Proofs.Ytdbeedhedjhamaa
