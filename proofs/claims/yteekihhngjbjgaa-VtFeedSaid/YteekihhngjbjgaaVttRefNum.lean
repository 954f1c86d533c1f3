/- Terminals: the document's numbers of an escape. -/
import Derived.Test.YteekihhngjbjgaaVttRv
namespace Go.Proofs.Yteekihhngjbjgaa.vtt
open Go.RowKit Go.Lib Go.Proofs.Yteekihhngjbjgaa.grd
set_option linter.unusedVariables false
set_option linter.unusedSimpArgs false
set_option linter.unnecessarySimpa false
set_option linter.unusedSectionVars false

def rng (z : Int) : Prop := -1 ≤ z ∧ z ≤ 9999
/-- The document's list of numbers, and what the parameters come to. -/
def Nr (ns : List Int) (p : Pm) : Prop :=
  (∃ x, ns = [x] ∧ rng x ∧ p = ⟨(max x 0).toNat, 0, 0, false⟩) ∨ (∃ x y, ns = [x, y] ∧ rng x ∧ rng y ∧ p = ⟨(max x 0).toNat, (max y 0).toNat, 1, false⟩) ∨ (2 < ns.length ∧ (∀ z ∈ ns, rng z) ∧ p.bad = true)
theorem Nr.start : Nr [-1] Pm.zero := Or.inl ⟨-1, rfl, ⟨by omega, by omega⟩, rfl⟩
theorem Nr.pos {ns : List Int} {p : Pm} (h : Nr ns p) : 0 < ns.length := by
  rcases h with ⟨x, rfl, _⟩ | ⟨x, y, rfl, _⟩ | ⟨h, _⟩
  · simp
  · simp
  · omega
theorem Nr.all {ns : List Int} {p : Pm} (h : Nr ns p) : ∀ z ∈ ns, rng z := by
  rcases h with ⟨x, rfl, h, _⟩ | ⟨x, y, rfl, h, h', _⟩ | ⟨_, h, _⟩
  · intro z hz; rw [List.mem_singleton.1 hz]; exact h
  · intro z hz
    rcases List.mem_cons.1 hz with rfl | hz
    · exact h
    · rw [List.mem_singleton.1 hz]; exact h'
  · exact h
theorem take_worse (p : Pm) (c : UInt8) (h : p.bad = true) : (take p c).bad = true := by
  unfold take; repeat' split
  all_goals first | exact h | rfl
theorem fold_worse (q : List UInt8) (p : Pm) (h : p.bad = true) : (q.foldl take p).bad = true := by
  induction q generalizing p with
  | nil => exact h
  | cons c q ih => exact ih _ (take_worse p c h)
theorem Nr.semi {ns : List Int} {p : Pm} (h : Nr ns p) (c : UInt8) (hc : c.toNat = 59) : Nr (ns ++ [-1]) (take p c) := by
  have ht : take p c = if p.last = 0 then { p with last := 1 } else { p with bad := true } := by
    unfold take
    rw [if_neg (by omega)]
    by_cases h0 : p.last = 0
    · rw [if_pos ⟨hc, h0⟩, if_pos h0]
    · rw [if_neg (fun e => h0 e.2), if_neg h0]
  rcases h with ⟨x, rfl, hx, rfl⟩ | ⟨x, y, rfl, hx, hy, rfl⟩ | ⟨hl, ha, hb⟩
  · rw [ht, if_pos rfl]
    exact Or.inr (Or.inl ⟨x, -1, rfl, hx, ⟨by omega, by omega⟩, rfl⟩)
  · rw [ht, if_neg (show ¬ (1 : Nat) = 0 by omega)]
    refine Or.inr (Or.inr ⟨by simp, fun z hz => ?_, rfl⟩)
    simp only [List.cons_append, List.nil_append, List.mem_cons, List.not_mem_nil, or_false] at hz
    rcases hz with rfl | rfl | rfl
    · exact hx
    · exact hy
    · exact ⟨by omega, by omega⟩
  · refine Or.inr (Or.inr ⟨by rw [List.length_append]; omega, fun z hz => ?_, take_worse p c hb⟩)
    rcases List.mem_append.1 hz with h | h
    · exact ha z h
    · rw [List.mem_singleton.1 h]; exact ⟨by omega, by omega⟩
theorem Nr.dig {ns : List Int} {p : Pm} (h : Nr ns p) (c : UInt8) (hc : 48 ≤ c.toNat ∧ c.toNat ≤ 57) (k : Nat) (hk : k + 1 = ns.length) (z : Int) (hz : ns[k]? = some z) : Nr (ns.set k ((num10 (max z 0).toNat (c.toNat - 48) : Nat) : Int)) (take p c) := by
  have hv : rng ((num10 (max z 0).toNat (c.toNat - 48) : Nat) : Int) := by unfold num10 rng; omega
  have hm : (max ((num10 (max z 0).toNat (c.toNat - 48) : Nat) : Int) 0).toNat = num10 (max z 0).toNat (c.toNat - 48) := by omega
  have ht : take p c = if p.last = 0 then { p with a := num10 p.a (c.toNat - 48) } else { p with b := num10 p.b (c.toNat - 48) } := by
    unfold take; rw [if_pos hc]
  rcases h with ⟨x, rfl, hx, rfl⟩ | ⟨x, y, rfl, hx, hy, rfl⟩ | ⟨hl, ha, hb⟩
  · obtain rfl : k = 0 := by simpa using hk
    obtain rfl : x = z := by simpa using hz
    rw [ht, if_pos rfl]
    exact Or.inl ⟨_, rfl, hv, by rw [hm]⟩
  · obtain rfl : k = 1 := by simpa using hk
    obtain rfl : y = z := by simpa using hz
    rw [ht, if_neg (show ¬ (1 : Nat) = 0 by omega)]
    exact Or.inr (Or.inl ⟨x, _, rfl, hx, hv, by rw [hm]⟩)
  · refine Or.inr (Or.inr ⟨by rw [List.length_set]; exact hl, fun u hu => ?_, take_worse p c hb⟩)
    rcases List.mem_or_eq_of_mem_set hu with h | rfl
    · exact ha u h
    · exact hv
theorem digest_take (t : ByteArray) (k : Nat) (h : k < t.size) : digest (t.data.toList.take (k + 1)) = take (digest (t.data.toList.take k)) t[k] := by
  have e : t.data.toList.take (k + 1) = t.data.toList.take k ++ [t[k]] := by rw [List.take_succ_eq_append_getElem (by simpa using h)]; rfl
  rw [e, digest_snoc]
theorem digest_worse (t : ByteArray) (k : Nat) (h : (digest (t.data.toList.take k)).bad = true) : (digest t.data.toList).bad = true := by
  have e : digest t.data.toList = (t.data.toList.drop k).foldl take (digest (t.data.toList.take k)) := by
    unfold digest; rw [← List.foldl_append, List.take_append_drop]
  rw [e]; exact fold_worse _ _ h
abbrev ints (ns : List Int) : List Value := ns.map fun z => .int .i64 z
def NumsSay (t : ByteArray) (w : World) (e : Ending) (w' : World) : Prop :=
  Below w.heap.size w w' ∧ ((e = .returned (.tuple #[.slice none 0 0, .bool false]) ∧ (digest t.data.toList).bad = true) ∨
    ∃ ns g c, e = .returned (.tuple #[.slice (some ⟨g, 0, none⟩) (ns : List Int).length c, .bool true]) ∧ Nr ns (digest t.data.toList) ∧ w'.ownsRow w.heap.size 3 1 (.slice (some ⟨g, 0, none⟩) ns.length c) ns.length (ints ns))
theorem info3 : (Try.prog.info? 3).map (fun i => (i.zero, i.size, i.bytes)) = some (some (.int .i64 0), 1, 8) := by kernel_rfl
set_option maxHeartbeats 4000000 in
set_option maxRecDepth 100000 in
theorem numbers_is (t : ByteArray) (w : World) (ht : t.size ≤ 1000000) : Calls Try.prog 48 #[.string t] w (NumsSay t w) := by
  obtain ⟨i0, hi0, hz0, hz1, hz2⟩ := info_parts info3
  have hml : (10000000 : Nat) ≤ maxLen := by unfold maxLen; omega
  have HO0 : Hid ((w.alloc (.cells #[.int .i64 (-1)] 3)).ownsRow w.heap.size 3 1 (.slice (some ⟨w.heap.size, 0, none⟩) 1 1) 1 (ints [-1])) := Lib.hid (World.ownsRow_lit w #[.int .i64 (-1)] 1 (Nat.le_refl _) (by omega) rfl)
  have HB0 : Hid (Below w.heap.size w (w.alloc (.cells #[.int .i64 (-1)] 3))) := Lib.hid ((Below.refl _ _).alloc (Nat.le_refl _) _)
  go_enter Try.func48, Try.ntmps48
  go_wp2
  go_loopg [4, 5, 6] t.size (fun g s4 s5 s6 wr => ∃ (i : Nat) (n : Nat) (ns : List Int) (b c : Nat), i ≤ t.size ∧ t.size - i ≤ g ∧ s5 = .int .i64 i ∧ s4 = .slice (some ⟨b, 0, none⟩) n c ∧ Hid (n = ns.length) ∧ n ≤ i + 1 ∧ Hid (wr.ownsRow w.heap.size 3 1 (.slice (some ⟨b, 0, none⟩) n c) n (ints ns)) ∧ Hid (Nr ns (digest (t.data.toList.take i))) ∧ Hid (Below w.heap.size w wr))
  case atStart => exact ⟨0, 1, [-1], w.heap.size, 1, Nat.zero_le _, by omega, rfl, rfl, Lib.hid rfl, by omega, HO0, Lib.hid Nr.start, HB0⟩
  case round =>
    obtain ⟨i, n, ns, b, c, hi', hg, rfl, rfl, HN, hni, HO, HR, HB⟩ := hrel
    clear HO0 HB0
    by_cases hlt : i < t.size
    · have HD := Lib.hid (digest_take t i hlt)
      have hn1 : 1 ≤ n := by have := HR.out.pos; have := HN.out; omega
      obtain ⟨k, rfl⟩ : ∃ k, n = k + 1 := ⟨n - 1, by omega⟩
      have hx256 : t[i].toNat < 256 := UInt8.toNat_lt _
      by_cases h59 : t[i].toNat = 59
      · have e59 : ((t[i].toNat : Int) == 59) = true := by simp [h59]
        have NR : Hid (Nr (ns ++ [-1]) (digest (t.data.toList.take (i + 1)))) := Lib.hid (by rw [HD.out]; exact HR.out.semi _ h59)
        have HV3 : Hid ((wr.alloc (.cells #[.int .i64 (-1)] 3)).ownsRow w.heap.size 3 1 (.slice (some ⟨b, 0, none⟩) (k + 1) c) (k + 1) (ints ns)) := Lib.hid (own_keep HO.out ((Below.refl _ _).alloc (Nat.le_refl _) _))
        have HBA : Hid (Below w.heap.size w (wr.alloc (.cells #[.int .i64 (-1)] 3))) := Lib.hid (HB.out.alloc HB.out.size _)
        have hsz := HB.out.size
        have hbl := HO.out.lt b rfl
        clear h59
        go_wp2_with (refine wpList_append_lies _ rfl (.tmp 21) (.tmp 22) 80 rfl w.heap.size 3 i0 (.int .i64 0) 1 8 Try.underlying80 hi0 hz0 hz1 hz2 rfl (by decide) (.slice (some ⟨b, 0, none⟩) (k + 1) c) (k + 1) (ints ns) rfl HV3.out ⟨wr.heap.size, 0, none⟩ 1 1 [.int .i64 (-1)] rfl rfl (fun q u hq => by
            match q, hq with
            | 0, hq => rw [Go.WideShapes.add_plain]; exact ((At.new wr 3 #[.int .i64 (-1)]).cell 0).trans (by simpa using hq)
            | q + 1, hq => simp at hq) (fun u hu => by rw [List.mem_singleton.1 hu]; rfl) (by omega) (by omega) (by omega) (by simp; omega) _ rfl ?_; intro g4 c4 w4 hown4 hgrow4 hg4 hlt4)
        have HB4 : Hid (Below w.heap.size w w4) := Lib.hid (HBA.out.grown hgrow4 (by simp; omega) (fun k e => (HV3.out.lt k e).1))
        have HO4 : Hid (w4.ownsRow w.heap.size 3 1 (.slice (some ⟨g4, 0, none⟩) (k + 1 + 1) c4) (k + 1 + 1) (ints (ns ++ [-1]))) := Lib.hid (by
          have : ints (ns ++ [-1]) = ints ns ++ [.int .i64 (-1)] := by simp [ints]
          rw [this]; exact hown4)
        have HN4 : Hid (k + 1 + 1 = (ns ++ [-1]).length) := Lib.hid (by rw [List.length_append, ← HN.out]; rfl)
        clear hown4 hgrow4 hg4 hlt4
        go_roundg (t.size - (i + 1))
        case measure => omega
        case rel => exact ⟨i + 1, k + 1 + 1, ns ++ [-1], g4, c4, by omega, by omega, by go_num, rfl, HN4, by omega, HO4, NR, HB4⟩
      · have e59 : ((t[i].toNat : Int) == 59) = false := by simp; omega
        by_cases hd : 48 ≤ t[i].toNat ∧ t[i].toNat ≤ 57
        · obtain ⟨z, hz⟩ : ∃ z, ns[k]? = some z := ⟨_, List.getElem?_eq_getElem (by have := HN.out; omega)⟩
          have hzr := HR.out.all z (List.mem_of_getElem? hz)
          unfold rng at hzr
          obtain ⟨Y, hY⟩ : ∃ Y : Nat, Y = (max z 0).toNat := ⟨_, rfl⟩
          obtain ⟨V, hV⟩ : ∃ V : Nat, V = num10 Y (t[i].toNat - 48) := ⟨_, rfl⟩
          have hYi : max z 0 = (Y : Int) := by omega
          have hY9 : Y ≤ 9999 := by omega
          have NR : Hid (Nr (ns.set k (V : Int)) (digest (t.data.toList.take (i + 1)))) := Lib.hid (by
            rw [HD.out, hV, hY]
            exact HR.out.dig _ hd k HN.out z hz)
          obtain ⟨d1, d2⟩ := hd
          obtain ⟨x, hx⟩ : ∃ x, x = t[i].toNat := ⟨_, rfl⟩
          have hw1 : IntKind.u8.wrap ((t[i].toNat : Int) - 48) = (t[i].toNat : Int) - 48 := by
            have := IntKind.wrap_u8 ((t[i].toNat : Int) - 48)
            rw [this]; omega
          have hw2 : IntKind.i64.wrap ((Y : Int) * 10) = (Y : Int) * 10 := by rw [IntKind.wrap_i64]; omega
          have hw3 : IntKind.i64.wrap ((Y : Int) * 10 + ((t[i].toNat : Int) - 48)) = (Y : Int) * 10 + ((t[i].toNat : Int) - 48) := by rw [IntKind.wrap_i64]; omega
          have hVi : min ((Y : Int) * 10 + ((t[i].toNat : Int) - 48)) 9999 = (V : Int) := by rw [hV]; unfold num10; omega
          have hcell : wr.cell? ⟨b, k, none⟩ = some (.int .i64 z) := by
            rw [HO.out.cellAt k (by omega)]
            unfold ints
            rw [List.getElem?_map, hz]; rfl
          have hfr := HO.out.frozenAt k
          have hk1 : (k : Int) < (k : Int) + 1 := by omega
          have HO4 : Hid ((wr.drew.setCell ⟨b, k, none⟩ (.int .i64 V)).ownsRow w.heap.size 3 1 (.slice (some ⟨b, 0, none⟩) (k + 1) c) (k + 1) (ints (ns.set k (V : Int)))) := Lib.hid (by
            have := (HO.out.stored k (.int .i64 (V : Int))).1
            have e : ints (ns.set k (V : Int)) = (ints ns).set k (.int .i64 (V : Int)) := by unfold ints; rw [List.map_set]
            rw [e]; exact this)
          have HB4 : Hid (Below w.heap.size w (wr.drew.setCell ⟨b, k, none⟩ (.int .i64 V))) := Lib.hid ((below_drew HB.out).setCell (p := ⟨b, k, none⟩) (HO.out.lt b rfl).1 _)
          have HN4 : Hid (k + 1 = (ns.set k (V : Int)).length) := Lib.hid (by rw [List.length_set]; exact HN.out)
          clear hz hY hV hx hzr h59
          go_wp2_with fail
          go_still_tail 15, (by kernel_rfl)
          change wpList _ _ _ _ _ wr.drew
          go_wp2
          go_roundg (t.size - (i + 1))
          case measure => omega
          case rel => exact ⟨i + 1, k + 1, ns.set k (V : Int), b, c, by omega, by omega, by go_num, rfl, HN4, by omega, HO4, NR, HB4⟩
        · have BAD : Hid ((digest t.data.toList).bad = true) := Lib.hid (by
            refine digest_worse t (i + 1) ?_
            rw [HD.out]
            unfold take
            rw [if_neg hd, if_neg (fun e => h59 e.1)])
          by_cases d48 : 48 ≤ t[i].toNat
          · have d1 : decide ((48 : Int) ≤ (t[i].toNat : Int)) = true := by simp; omega
            have d2 : decide ((t[i].toNat : Int) ≤ 57) = false := by simp; omega
            clear hd h59
            go_wp2
            refine bodyPost_ret (v := .tuple #[.slice none 0 0, .bool false]) (by simp [results, Try.results48, go_sem]) rfl ⟨HB.out, Or.inl ⟨rfl, BAD.out⟩⟩
          · have d1 : decide ((48 : Int) ≤ (t[i].toNat : Int)) = false := by simp; omega
            clear hd h59
            go_wp2
            refine bodyPost_ret (v := .tuple #[.slice none 0 0, .bool false]) (by simp [results, Try.results48, go_sem]) rfl ⟨HB.out, Or.inl ⟨rfl, BAD.out⟩⟩
    · have hin : i = t.size := by omega
      subst hin
      have FIN : Hid (NumsSay t w (.returned (.tuple #[.slice (some ⟨b, 0, none⟩) n c, .bool true])) wr) := Lib.hid (by
        have hR := HR.out
        rw [List.take_of_length_le (by simp)] at hR
        have hn := HN.out
        subst hn
        exact ⟨HB.out, Or.inr ⟨ns, b, c, rfl, hR, HO.out⟩⟩)
      clear HN HO HR
      go_wp2
      refine bodyPost_ret (v := .tuple #[.slice (some ⟨b, 0, none⟩) n c, .bool true]) (by simp [results, Try.results48, go_sem]) rfl FIN.out
end Go.Proofs.Yteekihhngjbjgaa.vtt
