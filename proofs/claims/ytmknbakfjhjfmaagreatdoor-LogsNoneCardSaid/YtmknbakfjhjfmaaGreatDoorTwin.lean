/- The law's Twin: the same lines in memory of their own, with a star behind them; the law's Left. -/
import Derived.Test.YtmknbakfjhjfmaaGreatDoorWords
import Derived.Test.YtmknbakfjhjfmaaGreatDoorShelf
import Derived.Lib.Strings
import Derived.Lib.Slices
import Derived.Lib.Walk
import Derived.Lib.Bytealg
import Derived.Lib.IndexLaws
import Derived.Lib.IndexBytes
import Derived.Shelf.Strings.Builder1
import Derived.Shelf.Strings.Builder2
import Derived.OwnWalk
import Derived.Laws.AppendOwnNone
import Derived.Maps.AppendAt
import Derived.RangeFuncBox
/-! strings.Index, strings.Contains and strings.Cut at a text of one byte. -/
namespace Go.Proofs.YtmknbakfjhjfmaaGreatDoor
open Go.RowKit Go.Lib

theorem index43 (s : ByteArray) (c : UInt8) (w : World) :
    Calls Tryz.prog 126 #[.string s, .string ⟨#[c]⟩] w fun e w' => e = .returned (.int .i64 (Lib.indexByte s.data.toList c)) ∧ w' = w := Tryz.stringslite_Index_one s c w
theorem contains38 (s : ByteArray) (c : UInt8) (w : World) :
    Calls Tryz.prog 83 #[.string s, .string ⟨#[c]⟩] w fun e w' => e = .returned (.bool (decide (0 ≤ Lib.indexByte s.data.toList c))) ∧ w' = w := Tryz.strings_Contains_one s c w

theorem extract_B (s : ByteArray) (a b : Nat) : s.extract a b = B ((s.data.toList.drop a).take (b - a)) := by rw [← Lib.extract_data, B_list]
theorem extract_end (s : ByteArray) (a : Nat) : s.extract a s.size = B (s.data.toList.drop a) := by rw [← Lib.extract_to_end, B_list]
theorem index_cases (l : List UInt8) (c : UInt8) : Lib.indexByte l c = -1 ∨ ∃ o : Nat, o < l.length ∧ Lib.indexByte l c = o := by
  have h := Lib.indexByte_ge l c
  by_cases h1 : Lib.indexByte l c = -1
  · exact .inl h1
  · right
    obtain ⟨o, ho⟩ : ∃ o : Nat, Lib.indexByte l c = o := ⟨(Lib.indexByte l c).toNat, by omega⟩
    refine ⟨o, ?_, ho⟩
    have := (Lib.indexByte_some ho).1
    exact (List.getElem?_eq_some_iff.1 this).1

set_option maxHeartbeats 1000000 in
set_option maxRecDepth 100000 in
theorem cut39 (s : ByteArray) (w : World) (hs : s.size ≤ 9223372036854775806) :
    Calls Tryz.prog 168 #[.string s, .string ⟨#[10]⟩] w fun e w' => e = .returned (.tuple #[.string (B (cut10 s.data.toList).1), .string (B (cut10 s.data.toList).2.1), .bool (cut10 s.data.toList).2.2]) ∧ ∃ q, w' = w.drewN q := by
  have e0 : s.data.toList.length = s.size := by rw [Array.length_toList]; rfl
  rcases index_cases s.data.toList 10 with h | ⟨o, ho, h⟩
  · have hn : (10 : UInt8) ∉ s.data.toList := fun hm => by
      obtain ⟨k, hk⟩ := List.getElem?_of_mem hm
      exact Lib.indexByte_none h k hk
    have HC := Lib.hid (cut10_none _ hn)
    clear hn e0
    go_enter Tryz.func168, Tryz.ntmps168
    go_wp2_with (go_at_call 126; refine (index43 _ _ _).mono ?_; rintro e w' ⟨rfl, rfl⟩; rw [h])
    go_ret3
    rw [HC.out]
    exact ⟨by rw [B_list]; rfl, 0, rfl⟩
  · have hh := Lib.indexByte_some h
    have HC := Lib.hid (cut10_some _ _ hh.1 hh.2)
    have ho' : o < s.size := by omega
    have E := Lib.hid e0
    clear hh e0 ho
    go_enter Tryz.func168, Tryz.ntmps168
    go_wp2_with (go_at_call 126; refine (index43 _ _ _).mono ?_; rintro e w' ⟨rfl, rfl⟩; rw [h])
    go_region
    go_wp2
    go_ret3
    rw [HC.out]
    refine ⟨?_, 1, rfl⟩
    show Ending.returned (.tuple #[.string (s.extract 0 o), .string (s.extract (o + 1) s.size), .bool true]) = _
    rw [extract_B s 0 o, extract_end s (o + 1)]
    simp

set_option maxHeartbeats 1000000 in
theorem cut34 (s : ByteArray) (w : World) (hs : s.size ≤ 9223372036854775806) :
    Calls Tryz.prog 162 #[.string s, .string ⟨#[10]⟩] w fun e w' => e = .returned (.tuple #[.string (B (cut10 s.data.toList).1), .string (B (cut10 s.data.toList).2.1), .bool (cut10 s.data.toList).2.2]) ∧ ∃ q, w' = w.drewN q := by
  go_enter Tryz.func162, Tryz.ntmps162
  go_wp2_with (go_at_call 168; refine (cut39 _ _ hs).mono ?_; rintro e w' ⟨rfl, q, rfl⟩)
  go_ret3
  exact ⟨rfl, q, rfl⟩
end Go.Proofs.YtmknbakfjhjfmaaGreatDoor

/-! lines.Check: may lines be those of a buffer; the program's answer as a number. -/
namespace Go.Proofs.YtmknbakfjhjfmaaGreatDoor
open Go.RowKit Go.Shelf Go.Lib

/-- Has a text a byte 10? -/
def nl (s : ByteArray) : Bool := decide (0 ≤ Lib.indexByte s.data.toList 10)
/-- Is a text longer than a line may be? -/
def long (s : ByteArray) : Bool := decide (1000 < s.size)
/-- The answer: 2: an argument; 3: too long; 0: none. -/
def chk (zs : List ByteArray) : Int := if zs.any nl then 2 else if 2000 < zs.length ∨ zs.any long then 3 else 0

theorem nl_iff (s : ByteArray) : nl s = true ↔ (10 : UInt8) ∈ s.data.toList := by
  unfold nl
  rw [decide_eq_true_iff]
  rcases index_cases s.data.toList 10 with h | ⟨o, _, h⟩
  · rw [h]
    refine ⟨fun h => absurd h (by omega), fun hm => ?_⟩
    obtain ⟨k, hk⟩ := List.getElem?_of_mem hm
    exact absurd hk (Lib.indexByte_none h k)
  · rw [h]
    exact ⟨fun _ => List.mem_of_getElem? (Lib.indexByte_some h).1, fun _ => by omega⟩

theorem pred29 (w : World) : PredAt Tryz.prog 108 #[] Value.string nl w := fun W x _ => by
  show Calls Tryz.prog 108 #[.string x] W fun e w' => e = .returned (.bool (nl x)) ∧ ∃ q, w' = W.drewN q
  go_enter Tryz.func108, Tryz.ntmps108
  go_wp2_with (go_at_call 83; refine (contains38 _ _ _).mono ?_; rintro e w' ⟨rfl, rfl⟩)
  go_ret
  exact ⟨rfl, 0, rfl⟩

theorem pred30 (w : World) : PredAt Tryz.prog 109 #[] Value.string long w := fun W x _ => by
  show Calls Tryz.prog 109 #[.string x] W fun e w' => e = .returned (.bool (long x)) ∧ ∃ q, w' = W.drewN q
  unfold long
  by_cases h : 1000 < x.size
  all_goals
    go_enter Tryz.func109, Tryz.ntmps109
    go_wp2
    go_ret
    refine ⟨?_, 0, rfl⟩
    simp [h]
    omega

theorem contains28 (g : Nat) (p : ByteArray → Bool) (eg : ∀ args w, (callFunc g args).run Tryz.prog w = .ok (.enter g args) w) (A : Option Addr) (c n n₀ : Nat) (zs : List ByteArray) (w : World) (hp : PredAt Tryz.prog g #[] Value.string p w) (hn : n = zs.length) (hb : n ≤ 9223372036854775807) (h : SRd w n₀ A zs) :
    Calls Tryz.prog 107 #[.slice A n c, .func (.func g) #[] #[]] w fun e w' => e = .returned (.bool (zs.any p)) ∧ ∃ q, w' = w.drewN q := by
  rcases Nat.eq_zero_or_pos n with h0 | h0
  · subst h0
    obtain rfl : zs = [] := List.eq_nil_of_length_eq_zero hn.symm
    refine (Tryz.slices_ContainsFunc_empty (α := ByteArray) A c _ w).mono ?_
    rintro e w' ⟨rfl, rfl⟩
    exact ⟨rfl, 0, rfl⟩
  · obtain ⟨b, off, rfl, _, hc⟩ := h (by omega)
    refine (Tryz.slices_ContainsFunc Value.string p g #[] eg b off n c zs w hp (by omega) hb (fun j hj => by rw [hc j hj]; simp [List.getD, List.getElem?_eq_getElem hj])).mono ?_
    rintro e w' ⟨rfl, q, rfl⟩
    refine ⟨?_, q, rfl⟩
    rw [hn, List.take_length]

set_option maxHeartbeats 1000000 in
set_option maxRecDepth 100000 in
theorem check18 (A : Option Addr) (c n n₀ : Nat) (zs : List ByteArray) (w : World) (hn : n = zs.length) (hb : n ≤ 9223372036854775807) (h : SRd w n₀ A zs) :
    Calls Tryz.prog 86 #[.slice A n c] w fun e w' => e = .returned (.int .i64 (chk zs)) ∧ ∃ q, w' = w.drewN q := by
  have C1 := Lib.hid (fun W (hp : PredAt Tryz.prog 108 #[] Value.string nl W) (hs : SRd W n₀ A zs) => contains28 108 nl (enters_of Tryz.func108 (by kernel_rfl) rfl) A c n n₀ zs W hp hn hb hs)
  have C2 := Lib.hid (fun W (hp : PredAt Tryz.prog 109 #[] Value.string long W) (hs : SRd W n₀ A zs) => contains28 109 long (enters_of Tryz.func109 (by kernel_rfl) rfl) A c n n₀ zs W hp hn hb hs)
  have HN := Lib.hid hn
  have HS := Lib.hid h
  clear hn h
  obtain ⟨b1, hb1⟩ : ∃ b, zs.any nl = b := ⟨_, rfl⟩
  obtain ⟨b2, hb2⟩ : ∃ b, zs.any long = b := ⟨_, rfl⟩
  have K1 := Lib.hid hb1
  have K2 := Lib.hid hb2
  clear hb1 hb2
  cases b1
  · by_cases hl : 2000 < n
    · go_enter Tryz.func86, Tryz.ntmps86
      go_wp2_with (go_at_call 107; refine (C1.out _ (pred29 _) HS.out).mono ?_; rw [K1.out]; rintro e w' ⟨rfl, q, rfl⟩)
      go_ret
      refine ⟨ret_int ?_, q, rfl⟩
      unfold chk; rw [K1.out, ← HN.out, if_neg (by simp), if_pos (.inl hl)]
    · cases b2
      all_goals
        go_enter Tryz.func86, Tryz.ntmps86
        go_wp2_with fail
        go_at_call 107
        refine (C1.out _ (pred29 _) HS.out).mono ?_
        rw [K1.out]
        rintro e w' ⟨rfl, q, rfl⟩
        go_wp2_with fail
        go_at_call 107
        refine (C2.out _ (pred30 _) (HS.out.drewN q)).mono ?_
        rw [K2.out]
        rintro e w' ⟨rfl, q2, rfl⟩
        go_wp2
        go_ret
        refine ⟨ret_int ?_, q + q2, rfl⟩
        unfold chk; rw [K1.out, K2.out, ← HN.out, if_neg (by simp)]
        first | rw [if_pos (.inr rfl)] | rw [if_neg (by simp; omega)]
  · go_enter Tryz.func86, Tryz.ntmps86
    go_wp2_with (go_at_call 107; refine (C1.out _ (pred29 _) HS.out).mono ?_; rw [K1.out]; rintro e w' ⟨rfl, q, rfl⟩)
    go_ret
    refine ⟨ret_int ?_, q, rfl⟩
    unfold chk; rw [K1.out, if_pos rfl]

theorem check18_b (A : Option Addr) (c n : Nat) (zs : List ByteArray) (w : World) (k : Int) (hn : n = zs.length) (hb : n ≤ 100000) (hk : chk zs = k) (h : SRd w w.heap.size A zs) :
    Calls Tryz.prog 86 #[.slice A n c] w fun e w' => e = .returned (.int .i64 k) ∧ Below w.heap.size w w' := by
  subst hk
  refine (check18 A c n _ zs w hn (by omega) h).mono ?_
  rintro e w' ⟨rfl, q, rfl⟩
  exact ⟨rfl, below_drewN (Below.refl _ w) _⟩
end Go.Proofs.YtmknbakfjhjfmaaGreatDoor

/-! (*strings.Builder).WriteString at a builder that the call itself has made: the library's contract at this program. -/
namespace Go.Proofs.YtmknbakfjhjfmaaGreatDoor
open Go.RowKit Go.Shelf Go.Lib

def ren166 : Go.Shelf.Ren := ⟨fun | 166 => 63 | 240 => 88 | 276 => 111 | n => n, fun | 70 => 101 | 3 => 3 | 0 => 0 | 4 => 4 | 9 => 9 | 20 => 20 | 72 => 103 | 37 => 83 | 164 => 117 | 5 => 5 | 75 => 53 | 80 => 106 | n => n, fun | n => n⟩
theorem lays166 : Go.Proofs.Lays.n166 Tryz.prog ren166 := {
  mixed := by kernel_rfl
  f166 := Tryz.func63.trans (congrArg some (by kernel_rfl))
  f240 := Tryz.func88.trans (congrArg some (by kernel_rfl))
  f276 := Tryz.func111.trans (congrArg some (by kernel_rfl))
  t0 := Tryz.underlying0
  a0 := Tryz.isAgg0
  z0 := Tryz.sizeOf0
  v0 := Tryz.zeroValue0
  t3 := Tryz.underlying3
  a3 := Tryz.isAgg3
  z3 := Tryz.sizeOf3
  v3 := Tryz.zeroValue3
  t4 := Tryz.underlying4
  a4 := Tryz.isAgg4
  z4 := Tryz.sizeOf4
  v4 := Tryz.zeroValue4
  t9 := Tryz.underlying9
  a9 := Tryz.isAgg9
  z9 := Tryz.sizeOf9
  v9 := Tryz.zeroValue9
  t20 := Tryz.underlying20
  a20 := Tryz.isAgg20
  z20 := Tryz.sizeOf20
  v20 := Tryz.zeroValue20
  t37 := Tryz.underlying83
  a37 := Tryz.isAgg83
  z37 := Tryz.sizeOf83
  v37 := Tryz.zeroValue83
  t70 := Tryz.underlying101
  a70 := Tryz.isAgg101
  z70 := Tryz.sizeOf101
  v70 := Tryz.zeroValue101
  t72 := Tryz.underlying103
  a72 := Tryz.isAgg103
  z72 := Tryz.sizeOf103
  v72 := Tryz.zeroValue103
  t75 := Tryz.underlying53
  a75 := Tryz.isAgg53
  z75 := Tryz.sizeOf53
  v75 := Tryz.zeroValue53
  t164 := Tryz.underlying117
  a164 := Tryz.isAgg117
  z164 := Tryz.sizeOf117
  v164 := Tryz.zeroValue117 }
theorem extra166 : Builder.Extra Tryz.prog ren166 := {
  sizeBuilder := by kernel_rfl
  liesBuilder := by kernel_rfl
  t5 := Tryz.underlying5
  a5 := Tryz.isAgg5
  z5 := Tryz.sizeOf5
  v5 := Tryz.zeroValue5
  infoByte := by kernel_rfl
  cellsByte := by kernel_rfl
  sizeByte := by kernel_rfl
  neB5 := by decide }

theorem writeString26 (n₀ b : Nat) (bs : List Value) (s : ByteArray) (w : World) (h : Lib.IsBuilder 103 5 n₀ b bs w) (hlen : bs.length + s.size ≤ 140737488355328) (hBw : n₀ ≤ w.heap.size) :
    Calls Tryz.prog 63 #[.pointer (some ⟨b, 0, none⟩), .string s] w fun e w' => e = .returned (.tuple #[.int .i64 s.size, .nilIface]) ∧ (Lib.BuilderAt 103 5 n₀ b (.pointer (some ⟨b, 0, none⟩)) (bs ++ Lib.strCells s) w' ∧ Below n₀ w w') :=
  Any.Builder_WriteString lays166 extra166 n₀ b bs s w h hlen hBw
end Go.Proofs.YtmknbakfjhjfmaaGreatDoor

/-! The law's Great: where it says no, the list has no more lines, and no more bytes together, than were named. -/
namespace Go.Proofs.YtmknbakfjhjfmaaGreatDoor
open Go.RowKit Go.Lib

def tot (zs : List ByteArray) : Nat := (zs.map ByteArray.size).sum
theorem tot_take (zs : List ByteArray) (k : Nat) (h : k < zs.length) : tot (zs.take (k + 1)) = tot (zs.take k) + (zs.getD k ByteArray.empty).size := by
  have e : zs.getD k ByteArray.empty = zs[k] := by simp [List.getD, List.getElem?_eq_getElem h]
  unfold tot; rw [e, List.take_succ_eq_append_getElem h, List.map_append, List.sum_append]; simp only [List.map_cons, List.map_nil, List.sum_cons, List.sum_nil, Nat.add_zero]

end Go.Proofs.YtmknbakfjhjfmaaGreatDoor

/-! lines.Join: all lines, each with a byte 10 behind it. -/
namespace Go.Proofs.YtmknbakfjhjfmaaGreatDoor
open Go.RowKit Go.Shelf Go.Lib

theorem tot_take_le (zs : List ByteArray) (k : Nat) : tot (zs.take k) ≤ tot zs := by
  unfold tot
  conv => rhs; rw [← List.take_append_drop k zs]
  rw [List.map_append, List.sum_append]; omega
theorem size_le_tot {zs : List ByteArray} {k : Nat} (h : k < zs.length) : (zs.getD k ByteArray.empty).size ≤ tot zs := by
  have := tot_take zs k h; have := tot_take_le zs (k + 1); omega

def bytesOf (zs : List ByteArray) : List (List UInt8) := zs.map (·.data.toList)
theorem join_take (zs : List ByteArray) (k : Nat) (h : k < zs.length) : joinL (bytesOf (zs.take (k + 1))) = joinL (bytesOf (zs.take k)) ++ (zs.getD k ByteArray.empty).data.toList ++ [10] := by
  have e : zs.getD k ByteArray.empty = zs[k] := by simp [List.getD, List.getElem?_eq_getElem h]
  unfold bytesOf
  rw [e, List.take_succ_eq_append_getElem h, List.map_append, List.map_cons, List.map_nil, joinL_snoc]
theorem join_len (zs : List ByteArray) : (joinL (bytesOf zs)).length = tot zs + zs.length := by
  induction zs with
  | nil => rfl
  | cons z r ih =>
    have e0 : z.data.toList.length = z.size := by rw [Array.length_toList]; rfl
    have e1 : tot (z :: r) = z.size + tot r := by simp [tot]
    have e2 : joinL (bytesOf (z :: r)) = z.data.toList ++ 10 :: joinL (bytesOf r) := rfl
    rw [e1, e2, List.length_append, List.length_cons, List.length_cons, ih, e0]; omega
theorem byteCells_str (l : List UInt8) (s : ByteArray) : Lib.byteCells l ++ Lib.strCells s = Lib.byteCells (l ++ s.data.toList) := by
  simp [Lib.byteCells, Lib.strCells]

end Go.Proofs.YtmknbakfjhjfmaaGreatDoor

/-! The law's Same, the document's Same, the program's Same: whether two lists of texts are one. -/
namespace Go.Proofs.YtmknbakfjhjfmaaGreatDoor
open Go.RowKit Go.Lib

end Go.Proofs.YtmknbakfjhjfmaaGreatDoor

/-! The law's Twin: the same lines in memory of their own, with a star behind them; the law's Left. -/
namespace Go.Proofs.YtmknbakfjhjfmaaGreatDoor
open Go.RowKit Go.Lib

theorem info9 : (Tryz.prog.info? 9).map (fun i => (i.zero, i.size, i.bytes)) = some (some (.string ⟨#[]⟩), 1, 16) := by kernel_rfl
theorem one_str (s : ByteArray) : ∀ u ∈ [Value.string s], u.oneCell' = true := by intro u hu; simp only [List.mem_singleton] at hu; subst hu; rfl
theorem one_strs (zs : List ByteArray) : ∀ u ∈ zs.map Value.string, u.oneCell' = true := by
  intro u hu; obtain ⟨s, _, rfl⟩ := List.mem_map.1 hu; rfl
abbrev star : ByteArray := ⟨#[42]⟩

theorem own_cap {w : World} {base : Nat} {e : TypeId} {a : Addr} {n cap : Nat} {xs : List Value} (h : w.ownsRow base e 1 (.slice (some a) n cap) n xs) : n ≤ cap ∧ cap ≤ maxLen := by
  rcases h.2 with ⟨h, _⟩ | ⟨g, cap', cur, hv, _, _, h1, h2, _⟩
  · cases h
  · injection hv with _ _ hv
    subst hv
    exact ⟨h1, h2⟩

/-- A row of one's own: the lines, and a star behind. -/
def TwinAt (w : World) (zs : List ByteArray) (v : Value) (w' : World) : Prop :=
  ∃ g cap, v = .slice (some ⟨g, 0, none⟩) zs.length cap ∧ w'.ownsRow w.heap.size 9 1 (.slice (some ⟨g, 0, none⟩) (zs.length + 1) cap) (zs.length + 1) ((zs ++ [star]).map Value.string) ∧ Below w.heap.size w w'

end Go.Proofs.YtmknbakfjhjfmaaGreatDoor
