/- The law NumsWay, walked: for every text and place it is true, and nothing that was there has turned. -/
import Derived.Test.YtcjcdbiknidahaaDoorLawBack
import Derived.Test.YtcjcdbiknidahaaDoorLawList
import Derived.Deep.QuietTactic
import Derived.BigQuiet
namespace Go.Proofs.YtcjcdbiknidahaaDoor
open Go.RowKit Go.Lib

theorem atT_place {l : List UInt8} {b n : Nat} {t : List UInt8} (hn : atN l b = some n) (h : atT l b = some t) : (l.drop b).take (putT t).length = putT t ∧ b + (putT t).length ≤ l.length ∧ (putN n).length ≤ (putT t).length ∧ t.length ≤ l.length := by
  obtain ⟨c, hc, hle, hg, hm⟩ := atN_place hn
  obtain rfl : b = c := by omega
  rw [atT_nat (by omega)] at h
  obtain ⟨h1, r, hr⟩ := getT_iff.1 h
  have hlen := congrArg List.length hr
  rw [List.length_append, List.length_drop] at hlen
  have e : n = t.length := by
    have h2 : getN (l.drop b) = some t.length := by
      rw [← hr]; unfold putT; rw [List.append_assoc]; exact getN_put h1 _
    rw [hg] at h2
    exact Option.some.inj h2
  have hpt : (putT t).length = (putN t.length).length + t.length := by unfold putT; rw [List.length_append]
  have h2 := putN_len2 t.length
  refine ⟨by rw [← hr, List.take_left], by omega, by rw [e]; omega, by omega⟩
theorem atL_place {l : List UInt8} {b n : Nat} {ts : List (List UInt8)} (hn : atN l b = some n) (h : atL l b = some ts) : (l.drop b).take (putL ts).length = putL ts ∧ b + (putL ts).length ≤ l.length ∧ (putN n).length ≤ (putL ts).length := by
  obtain ⟨c, hc, hle, hg, hm⟩ := atN_place hn
  obtain rfl : b = c := by omega
  unfold atL at h
  rw [if_pos (by omega), Int.toNat_natCast] at h
  obtain ⟨h1, _, r, hr⟩ := getL_iff.1 h
  have hlen := congrArg List.length hr
  rw [List.length_append, List.length_drop] at hlen
  have e : n = ts.length := by
    have h2 : getN (l.drop b) = some ts.length := by
      rw [← hr]; unfold putL; rw [List.append_assoc]; exact getN_put h1 _
    rw [hg] at h2
    exact Option.some.inj h2
  have hpt : (putL ts).length = (putN ts.length).length + (ts.flatMap putT).length := by unfold putL; rw [List.length_append]
  have h2 := putN_len2 ts.length
  refine ⟨by rw [← hr, List.take_left], by omega, by rw [e]; omega⟩
theorem atL_sizes {l : List UInt8} {a : Int} {ts : List (List UInt8)} (h : atL l a = some ts) : tot (ts.map B) ≤ l.length := by
  unfold atL at h
  split at h
  · obtain ⟨_, _, r, hr⟩ := getL_iff.1 h
    have := congrArg List.length hr
    rw [List.length_append, List.length_drop] at this
    have key : ∀ (ys : List (List UInt8)), tot (ys.map B) ≤ (ys.flatMap putT).length := by
      intro ys
      induction ys with
      | nil => simp [tot]
      | cons y r ih =>
        have e1 : tot ((y :: r).map B) = (B y).size + tot (r.map B) := by simp [tot]
        rw [e1, List.flatMap_cons, List.length_append, B_size]
        unfold putT at *
        rw [List.length_append]; omega
    have h1 := key ts
    unfold putL at this
    rw [List.length_append] at this
    omega
  · cases h
theorem bytes_map (ts : List (List UInt8)) : bytesOf (ts.map B) = ts := by
  unfold bytesOf
  rw [List.map_map]
  conv => rhs; rw [← List.map_id ts]
  exact List.map_congr_left (fun z _ => list_B z)
/-- A piece of a text, said by where it ends. -/
theorem piece_slice (s : ByteArray) (b : Nat) (x : List UInt8) (q : Int) (hq : q = (b : Int) + (x.length : Int)) (hle : b + x.length ≤ s.size) (hx : (s.data.toList.drop b).take x.length = x) (W : World) :
    (Instr.slice 9 (.string s) (some (.int .i64 (b : Int))) (some (.int .i64 q)) none).run Tryd.prog W = .ok (.string (B x)) W := by
  rw [hq, put_slice s b x.length hle, hx]

set_option maxHeartbeats 8000000 in
set_option maxRecDepth 100000 in
theorem law7 (s : ByteArray) (a : Int) (w : World) (hs : s.size ≤ 140737488351232) (_ha : (Lit.int .i64 a).wf = true) (hV : Vars w.heap.size w) :
    Calls Tryd.prog 7 #[.string s, .int .i64 a] w fun e w' => e = .returned (.bool true) ∧ Below w.heap.size w w' := by
  have HV : Hid (∀ W, Below w.heap.size w W → Vars W.heap.size W) := Lib.hid (fun W hW => (hV.below hW).more hW.size)
  have DD : Hid (∀ W, Below w.heap.size w W → Calls Tryd.prog 19 #[] W fun e w' => e = .returned (.bool true) ∧ Below W.heap.size W w') := Lib.hid (fun W hW => does19 W (HV.out W hW))
  clear hV _ha
  by_cases hbig : 5000 < s.size
  · go_enter Tryd.func7, Tryd.ntmps7
    go_wp2
    go_ret
    exact ⟨rfl, Below.refl _ _⟩
  have G : Hid (∀ W, Below w.heap.size w W → Calls Tryd.prog 20 #[.string s, .int .i64 a] W fun e w' => e = .returned (retN a (atN s.data.toList a)) ∧ Below W.heap.size W w') := Lib.hid (fun W hW => get20 s a W hs (HV.out W hW))
  have T : Hid (∀ W, Below w.heap.size w W → Calls Tryd.prog 22 #[.string s, .int .i64 a] W fun e w' => e = .returned (retT a (atT s.data.toList a)) ∧ Below W.heap.size W w') := Lib.hid (fun W hW => getText22 s a W hs (HV.out W hW))
  have L : Hid (∀ W, Below w.heap.size w W → Calls Tryd.prog 24 #[.string s, .int .i64 a] W (ListSays s.data.toList a W)) := Lib.hid (fun W hW => getList24 s a W (by omega) (HV.out W hW))
  have B0 : Below w.heap.size w w := Below.refl _ _
  rcases hn : atN s.data.toList a with _ | n
  · rw [hn] at G
    rw [atT_none_of hn] at T
    have HLs := Lib.hid (fun W e W' (h : ListSays s.data.toList a W e W') => ListSays.none h (atL_none_of hn))
    simp only [retN] at G
    simp only [retT] at T
    clear hn
    go_enter Tryd.func7, Tryd.ntmps7
    go_wp2_with fail
    go_at_call 20
    refine (G.out w B0).mono ?_
    rintro e w1 ⟨rfl, HB1⟩
    have hz1 := HB1.size
    go_wp2_with fail
    go_quiet (fail)
    go_wp2_with fail
    go_at_call 22
    refine (T.out _ (below_drewN HB1 _)).mono ?_
    rintro e w2 ⟨rfl, hB2⟩
    have HB2 : Below w.heap.size w w2 := Below.trans (below_drewN HB1 _) (hB2.mono (below_drewN HB1 _).size)
    have hz2 := HB2.size
    clear hB2
    go_wp2_with fail
    go_quiet (fail)
    go_wp2_with fail
    go_at_call 24
    refine (L.out _ (below_drewN HB2 _)).mono ?_
    intro e w3 h3
    obtain ⟨rfl, hB3⟩ := HLs.out _ _ _ h3
    have HB3 : Below w.heap.size w w3 := Below.trans (below_drewN HB2 _) (hB3.mono (below_drewN HB2 _).size)
    have hz3 := HB3.size
    clear hB3 h3
    go_wp2_with fail
    go_quiet (fail)
    go_wp2_with fail
    go_at_call 19
    refine (DD.out _ (below_drewN HB3 _)).mono ?_
    rintro e w4 ⟨rfl, hB4⟩
    have HB4 : Below w.heap.size w w4 := Below.trans (below_drewN HB3 _) (hB4.mono (below_drewN HB3 _).size)
    clear hB4
    go_wp2
    go_ret
    exact ⟨rfl, HB4⟩
  · obtain ⟨b, rfl, hle, hgn, hnm⟩ := atN_place hn
    rw [size_list] at hle
    rw [hn] at G
    simp only [retN] at G
    have hn' : n ≤ 9223372036854775807 := hnm
    have P1 : Hid (∀ W, Below w.heap.size w W → Calls Tryd.prog 12 #[.int .i64 n] W fun e w' => e = .returned (.string (B (putN n))) ∧ Below W.heap.size W w') := Lib.hid (fun W hW => put12 n W hnm (HV.out W hW))
    have hx1 := putN_len2 n
    have hp1 : (s.data.toList.drop b).take (putN n).length = putN n := by obtain ⟨r, hr⟩ := (getN_iff.1 hgn).2; rw [← hr, List.take_left]
    obtain ⟨q1, hq1⟩ : ∃ q : Int, q = (b : Int) + (putN n).length := ⟨_, rfl⟩
    have hsl1 := piece_slice s b (putN n) q1 hq1 hle hp1
    rw [← hq1] at G
    have HN := Lib.hid hn
    have t1 : decide ((n : Int) < 0) = false := by simp
    have t2 : decide ((b : Int) < 0) = false := by simp
    have t3 : decide (q1 ≤ (b : Int)) = false := by simp; omega
    have t4 : decide ((s.size : Int) < q1) = false := by simp; omega
    have Q1 := Lib.hid hq1
    obtain ⟨x1, hxx1⟩ : ∃ x, x = putN n := ⟨_, rfl⟩
    rw [← hxx1] at P1 hsl1 hx1 hq1 hle
    have X1 := Lib.hid hxx1
    clear hn hgn hnm hp1 hxx1 hq1
    rcases ht : atT s.data.toList b with _ | t
    · have TN : Hid (atT s.data.toList b = none) := Lib.hid ht
      rw [ht] at T
      simp only [retT] at T
      clear ht
      rcases hl : atL s.data.toList b with _ | ts
      · have HLs := Lib.hid (fun W e W' (h : ListSays s.data.toList (b : Int) W e W') => ListSays.none h hl)
        clear hl
        clear HN X1 Q1
        go_enter Tryd.func7, Tryd.ntmps7
        go_wp2_with fail
        go_at_call 20
        refine (G.out w B0).mono ?_
        rintro e w1 ⟨rfl, HB1⟩
        have hz1 := HB1.size
        have K1 : Hid (∀ W, More w1.heap.size w1 W → Calls Tryd.prog 12 #[.int .i64 n] W fun e w' => e = .returned (.string (B x1)) ∧ More w1.heap.size w1 w') := Lib.hid (fun W hW => (P1.out W (HB1.trans (Below.mono hW hz1))).mono fun e w' h => And.intro h.1 (Below.trans hW (h.2.mono (Below.size hW))))
        have M1 : More w1.heap.size w1 w1 := Below.refl _ _
        have M1' : More w1.heap.size w1 w1.drew := below_drew (Below.refl _ _)
        go_wp2_with fail
        go_region_held3 (fun W => More w1.heap.size w1 W) (assumption) (first | (go_at_call 12; refine (K1.out _ ?_).mono ?_; (assumption); rintro e w' ⟨rfl, hS⟩))
        rename_i S1
        have R1 : Below w.heap.size w _ := HB1.trans (Below.mono S1 hz1)
        clear M1 M1' K1 S1
        clear t1 t2 t3 t4 hsl1
        go_wp2_with fail
        go_at_call 22
        refine (T.out _ R1).mono ?_
        rintro e w2 ⟨rfl, hB2⟩
        have HB2 : Below w.heap.size w w2 := Below.trans R1 (hB2.mono R1.size)
        have hz2 := HB2.size
        clear hB2
        go_wp2_with fail
        go_quiet (fail)
        go_wp2_with fail
        go_at_call 24
        refine (L.out _ (below_drewN HB2 _)).mono ?_
        intro e w3 h3
        obtain ⟨rfl, hB3⟩ := HLs.out _ _ _ h3
        have HB3 : Below w.heap.size w w3 := Below.trans (below_drewN HB2 _) (hB3.mono (below_drewN HB2 _).size)
        have hz3 := HB3.size
        clear hB3 h3
        go_wp2_with fail
        go_quiet (fail)
        go_wp2_with fail
        go_at_call 19
        refine (DD.out _ (below_drewN HB3 _)).mono ?_
        rintro e w4 ⟨rfl, hB4⟩
        have HB4 : Below w.heap.size w w4 := Below.trans (below_drewN HB3 _) (hB4.mono (below_drewN HB3 _).size)
        clear hB4
        go_wp2
        go_ret
        exact ⟨rfl, HB4⟩
      · have hpl := atL_place HN.out hl
        rw [size_list] at hpl
        obtain ⟨ha1, ha2, ha3⟩ := hpl
        have hsz := atL_sizes hl
        have hsh := atL_short hl
        rw [size_list] at hsz hsh
        obtain ⟨n3, hn3⟩ : ∃ n, n = ts.length := ⟨_, rfl⟩
        obtain ⟨q3, hq3⟩ : ∃ q : Int, q = (b : Int) + (putL ts).length := ⟨_, rfl⟩
        have HLs := Lib.hid (fun W e W' (h : ListSays s.data.toList (b : Int) W e W') => ListSays.some h hl)
        rw [← hn3, ← hq3] at HLs
        have SL3 := Lib.hid (piece_slice s b (putL ts) q3 hq3 ha2 ha1)
        have T7 : Hid (decide (q3 < q1) = false) := Lib.hid (by have := Q1.out; simp; omega)
        have T8 : Hid (decide ((s.size : Int) < q3) = false) := Lib.hid (by simp; omega)
        have P3 : Hid (∀ A c W, Below w.heap.size w W → SRd W W.heap.size A (ts.map B) → Calls Tryd.prog 16 #[.slice A n3 c] W fun e w' => e = .returned (.string (B (putL ts))) ∧ Below W.heap.size W w') := Lib.hid (fun A c W hW hR => by
          have h := putList16 A c n3 (ts.map B) W (by rw [List.length_map, hn3]) (by omega) (by omega) hR (HV.out W hW)
          rw [bytes_map] at h
          exact h)
        generalize putL ts = x3 at P3 SL3
        clear ha1 ha2 ha3 hsz hsh hn3 hq3 hl
        clear HN X1 Q1
        go_enter Tryd.func7, Tryd.ntmps7
        go_wp2_with fail
        go_at_call 20
        refine (G.out w B0).mono ?_
        rintro e w1 ⟨rfl, HB1⟩
        have hz1 := HB1.size
        have K1 : Hid (∀ W, More w1.heap.size w1 W → Calls Tryd.prog 12 #[.int .i64 n] W fun e w' => e = .returned (.string (B x1)) ∧ More w1.heap.size w1 w') := Lib.hid (fun W hW => (P1.out W (HB1.trans (Below.mono hW hz1))).mono fun e w' h => And.intro h.1 (Below.trans hW (h.2.mono (Below.size hW))))
        have M1 : More w1.heap.size w1 w1 := Below.refl _ _
        have M1' : More w1.heap.size w1 w1.drew := below_drew (Below.refl _ _)
        go_wp2_with fail
        go_region_held3 (fun W => More w1.heap.size w1 W) (assumption) (first | (go_at_call 12; refine (K1.out _ ?_).mono ?_; (assumption); rintro e w' ⟨rfl, hS⟩))
        rename_i S1
        have R1 : Below w.heap.size w _ := HB1.trans (Below.mono S1 hz1)
        clear M1 M1' K1 S1
        clear t1 t2 t3 t4 hsl1
        go_wp2_with fail
        go_at_call 22
        refine (T.out _ R1).mono ?_
        rintro e w2 ⟨rfl, hB2⟩
        have HB2 : Below w.heap.size w w2 := Below.trans R1 (hB2.mono R1.size)
        have hz2 := HB2.size
        clear hB2
        go_wp2_with fail
        go_quiet (fail)
        go_wp2_with fail
        go_at_call 24
        refine (L.out _ (below_drewN HB2 _)).mono ?_
        intro e w3 h3
        obtain ⟨A, c, rfl, _, r3, hB3⟩ := HLs.out _ _ _ h3
        have HB3 : Below w.heap.size w w3 := Below.trans (below_drewN HB2 _) (hB3.mono (below_drewN HB2 _).size)
        have hz3 := HB3.size
        clear hB3 h3
        have hsl3 := SL3.out
        have t7 := T7.out
        have t8 := T8.out
        have K3 : Hid (∀ W, More w3.heap.size w3 W → Calls Tryd.prog 16 #[.slice A n3 c] W fun e w' => e = .returned (.string (B x3)) ∧ More w3.heap.size w3 w') := Lib.hid (fun W hW => (P3.out A c W (HB3.trans (Below.mono hW hz3)) ((r3.below hW).more (Below.size hW))).mono fun e w' h => And.intro h.1 (Below.trans hW (h.2.mono (Below.size hW))))
        clear r3
        have M3 : More w3.heap.size w3 w3 := Below.refl _ _
        have M3' : More w3.heap.size w3 w3.drew := below_drew (Below.refl _ _)
        go_wp2_with fail
        go_region_held3 (fun W => More w3.heap.size w3 W) (assumption) (first | (go_at_call 16; refine (K3.out _ ?_).mono ?_; (assumption); rintro e w' ⟨rfl, hS⟩))
        rename_i S3
        have R3 : Below w.heap.size w _ := HB3.trans (Below.mono S3 hz3)
        clear M3 M3' K3 S3
        clear hsl3 t7 t8
        go_wp2_with fail
        go_at_call 19
        refine (DD.out _ R3).mono ?_
        rintro e w4 ⟨rfl, hB4⟩
        have HB4 : Below w.heap.size w w4 := Below.trans R3 (hB4.mono R3.size)
        clear hB4
        go_wp2
        go_ret
        exact ⟨rfl, HB4⟩
    · have hpl := atT_place HN.out ht
      rw [size_list] at hpl
      obtain ⟨ha1, ha2, ha3, ha4⟩ := hpl
      rw [ht] at T
      simp only [retT] at T
      obtain ⟨q2, hq2⟩ : ∃ q : Int, q = (b : Int) + (putT t).length := ⟨_, rfl⟩
      have SL2 := Lib.hid (piece_slice s b (putT t) q2 hq2 ha2 ha1)
      rw [← hq2] at T
      have T5 : Hid (decide (q2 < q1) = false) := Lib.hid (by have := Q1.out; simp; omega)
      have T6 : Hid (decide ((s.size : Int) < q2) = false) := Lib.hid (by simp; omega)
      have P2 : Hid (∀ W, Below w.heap.size w W → Calls Tryd.prog 14 #[.string (B t)] W fun e w' => e = .returned (.string (B (putT t))) ∧ Below W.heap.size W w') := Lib.hid (fun W hW => by
        have h := putText14 (B t) W (by rw [B_size]; omega) (HV.out W hW)
        rw [list_B] at h
        exact h)
      generalize putT t = x2 at P2 SL2
      clear ha1 ha2 ha3 ha4 hq2 ht
      rcases hl : atL s.data.toList b with _ | ts
      · have HLs := Lib.hid (fun W e W' (h : ListSays s.data.toList (b : Int) W e W') => ListSays.none h hl)
        clear hl
        clear HN X1 Q1
        go_enter Tryd.func7, Tryd.ntmps7
        go_wp2_with fail
        go_at_call 20
        refine (G.out w B0).mono ?_
        rintro e w1 ⟨rfl, HB1⟩
        have hz1 := HB1.size
        have K1 : Hid (∀ W, More w1.heap.size w1 W → Calls Tryd.prog 12 #[.int .i64 n] W fun e w' => e = .returned (.string (B x1)) ∧ More w1.heap.size w1 w') := Lib.hid (fun W hW => (P1.out W (HB1.trans (Below.mono hW hz1))).mono fun e w' h => And.intro h.1 (Below.trans hW (h.2.mono (Below.size hW))))
        have M1 : More w1.heap.size w1 w1 := Below.refl _ _
        have M1' : More w1.heap.size w1 w1.drew := below_drew (Below.refl _ _)
        go_wp2_with fail
        go_region_held3 (fun W => More w1.heap.size w1 W) (assumption) (first | (go_at_call 12; refine (K1.out _ ?_).mono ?_; (assumption); rintro e w' ⟨rfl, hS⟩))
        rename_i S1
        have R1 : Below w.heap.size w _ := HB1.trans (Below.mono S1 hz1)
        clear M1 M1' K1 S1
        clear t1 t2 t3 t4 hsl1
        go_wp2_with fail
        go_at_call 22
        refine (T.out _ R1).mono ?_
        rintro e w2 ⟨rfl, hB2⟩
        have HB2 : Below w.heap.size w w2 := Below.trans R1 (hB2.mono R1.size)
        have hz2 := HB2.size
        clear hB2
        have hsl2 := SL2.out
        have t5 := T5.out
        have t6 := T6.out
        have K2 : Hid (∀ W, More w2.heap.size w2 W → Calls Tryd.prog 14 #[.string (B t)] W fun e w' => e = .returned (.string (B x2)) ∧ More w2.heap.size w2 w') := Lib.hid (fun W hW => (P2.out W (HB2.trans (Below.mono hW hz2))).mono fun e w' h => And.intro h.1 (Below.trans hW (h.2.mono (Below.size hW))))
        have M2 : More w2.heap.size w2 w2 := Below.refl _ _
        have M2' : More w2.heap.size w2 w2.drew := below_drew (Below.refl _ _)
        go_wp2_with fail
        go_region_held3 (fun W => More w2.heap.size w2 W) (assumption) (first | (go_at_call 14; refine (K2.out _ ?_).mono ?_; (assumption); rintro e w' ⟨rfl, hS⟩))
        rename_i S2
        have R2 : Below w.heap.size w _ := HB2.trans (Below.mono S2 hz2)
        clear M2 M2' K2 S2
        clear hsl2 t5 t6
        go_wp2_with fail
        go_at_call 24
        refine (L.out _ R2).mono ?_
        intro e w3 h3
        obtain ⟨rfl, hB3⟩ := HLs.out _ _ _ h3
        have HB3 : Below w.heap.size w w3 := Below.trans R2 (hB3.mono R2.size)
        have hz3 := HB3.size
        clear hB3 h3
        go_wp2_with fail
        go_quiet (fail)
        go_wp2_with fail
        go_at_call 19
        refine (DD.out _ (below_drewN HB3 _)).mono ?_
        rintro e w4 ⟨rfl, hB4⟩
        have HB4 : Below w.heap.size w w4 := Below.trans (below_drewN HB3 _) (hB4.mono (below_drewN HB3 _).size)
        clear hB4
        go_wp2
        go_ret
        exact ⟨rfl, HB4⟩
      · have hpl := atL_place HN.out hl
        rw [size_list] at hpl
        obtain ⟨ha1, ha2, ha3⟩ := hpl
        have hsz := atL_sizes hl
        have hsh := atL_short hl
        rw [size_list] at hsz hsh
        obtain ⟨n3, hn3⟩ : ∃ n, n = ts.length := ⟨_, rfl⟩
        obtain ⟨q3, hq3⟩ : ∃ q : Int, q = (b : Int) + (putL ts).length := ⟨_, rfl⟩
        have HLs := Lib.hid (fun W e W' (h : ListSays s.data.toList (b : Int) W e W') => ListSays.some h hl)
        rw [← hn3, ← hq3] at HLs
        have SL3 := Lib.hid (piece_slice s b (putL ts) q3 hq3 ha2 ha1)
        have T7 : Hid (decide (q3 < q1) = false) := Lib.hid (by have := Q1.out; simp; omega)
        have T8 : Hid (decide ((s.size : Int) < q3) = false) := Lib.hid (by simp; omega)
        have P3 : Hid (∀ A c W, Below w.heap.size w W → SRd W W.heap.size A (ts.map B) → Calls Tryd.prog 16 #[.slice A n3 c] W fun e w' => e = .returned (.string (B (putL ts))) ∧ Below W.heap.size W w') := Lib.hid (fun A c W hW hR => by
          have h := putList16 A c n3 (ts.map B) W (by rw [List.length_map, hn3]) (by omega) (by omega) hR (HV.out W hW)
          rw [bytes_map] at h
          exact h)
        generalize putL ts = x3 at P3 SL3
        clear ha1 ha2 ha3 hsz hsh hn3 hq3 hl
        clear HN X1 Q1
        go_enter Tryd.func7, Tryd.ntmps7
        go_wp2_with fail
        go_at_call 20
        refine (G.out w B0).mono ?_
        rintro e w1 ⟨rfl, HB1⟩
        have hz1 := HB1.size
        have K1 : Hid (∀ W, More w1.heap.size w1 W → Calls Tryd.prog 12 #[.int .i64 n] W fun e w' => e = .returned (.string (B x1)) ∧ More w1.heap.size w1 w') := Lib.hid (fun W hW => (P1.out W (HB1.trans (Below.mono hW hz1))).mono fun e w' h => And.intro h.1 (Below.trans hW (h.2.mono (Below.size hW))))
        have M1 : More w1.heap.size w1 w1 := Below.refl _ _
        have M1' : More w1.heap.size w1 w1.drew := below_drew (Below.refl _ _)
        go_wp2_with fail
        go_region_held3 (fun W => More w1.heap.size w1 W) (assumption) (first | (go_at_call 12; refine (K1.out _ ?_).mono ?_; (assumption); rintro e w' ⟨rfl, hS⟩))
        rename_i S1
        have R1 : Below w.heap.size w _ := HB1.trans (Below.mono S1 hz1)
        clear M1 M1' K1 S1
        clear t1 t2 t3 t4 hsl1
        go_wp2_with fail
        go_at_call 22
        refine (T.out _ R1).mono ?_
        rintro e w2 ⟨rfl, hB2⟩
        have HB2 : Below w.heap.size w w2 := Below.trans R1 (hB2.mono R1.size)
        have hz2 := HB2.size
        clear hB2
        have hsl2 := SL2.out
        have t5 := T5.out
        have t6 := T6.out
        have K2 : Hid (∀ W, More w2.heap.size w2 W → Calls Tryd.prog 14 #[.string (B t)] W fun e w' => e = .returned (.string (B x2)) ∧ More w2.heap.size w2 w') := Lib.hid (fun W hW => (P2.out W (HB2.trans (Below.mono hW hz2))).mono fun e w' h => And.intro h.1 (Below.trans hW (h.2.mono (Below.size hW))))
        have M2 : More w2.heap.size w2 w2 := Below.refl _ _
        have M2' : More w2.heap.size w2 w2.drew := below_drew (Below.refl _ _)
        go_wp2_with fail
        go_region_held3 (fun W => More w2.heap.size w2 W) (assumption) (first | (go_at_call 14; refine (K2.out _ ?_).mono ?_; (assumption); rintro e w' ⟨rfl, hS⟩))
        rename_i S2
        have R2 : Below w.heap.size w _ := HB2.trans (Below.mono S2 hz2)
        clear M2 M2' K2 S2
        clear hsl2 t5 t6
        go_wp2_with fail
        go_at_call 24
        refine (L.out _ R2).mono ?_
        intro e w3 h3
        obtain ⟨A, c, rfl, _, r3, hB3⟩ := HLs.out _ _ _ h3
        have HB3 : Below w.heap.size w w3 := Below.trans R2 (hB3.mono R2.size)
        have hz3 := HB3.size
        clear hB3 h3
        have hsl3 := SL3.out
        have t7 := T7.out
        have t8 := T8.out
        have K3 : Hid (∀ W, More w3.heap.size w3 W → Calls Tryd.prog 16 #[.slice A n3 c] W fun e w' => e = .returned (.string (B x3)) ∧ More w3.heap.size w3 w') := Lib.hid (fun W hW => (P3.out A c W (HB3.trans (Below.mono hW hz3)) ((r3.below hW).more (Below.size hW))).mono fun e w' h => And.intro h.1 (Below.trans hW (h.2.mono (Below.size hW))))
        clear r3
        have M3 : More w3.heap.size w3 w3 := Below.refl _ _
        have M3' : More w3.heap.size w3 w3.drew := below_drew (Below.refl _ _)
        go_wp2_with fail
        go_region_held3 (fun W => More w3.heap.size w3 W) (assumption) (first | (go_at_call 16; refine (K3.out _ ?_).mono ?_; (assumption); rintro e w' ⟨rfl, hS⟩))
        rename_i S3
        have R3 : Below w.heap.size w _ := HB3.trans (Below.mono S3 hz3)
        clear M3 M3' K3 S3
        clear hsl3 t7 t8
        go_wp2_with fail
        go_at_call 19
        refine (DD.out _ R3).mono ?_
        rintro e w4 ⟨rfl, hB4⟩
        have HB4 : Below w.heap.size w w4 := Below.trans R3 (hB4.mono R3.size)
        clear hB4
        go_wp2
        go_ret
        exact ⟨rfl, HB4⟩
end Go.Proofs.YtcjcdbiknidahaaDoor
