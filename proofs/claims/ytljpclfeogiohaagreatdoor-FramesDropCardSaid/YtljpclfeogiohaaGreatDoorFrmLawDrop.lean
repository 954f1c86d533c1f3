/- FramesDrop, walked. -/
import Derived.Test.YtljpclfeogiohaaGreatDoorFrmSlices
import Derived.Test.YtljpclfeogiohaaGreatDoorGreat
namespace Go.Proofs.YtljpclfeogiohaaGreatDoor.frm
open Go.RowKit Go.Lib

/-- The texts as bytes. -/
def bytesOf (zs : List ByteArray) : List (List UInt8) := zs.map fun z => z.data.toList
theorem map_bytes (zs : List ByteArray) : (bytesOf zs).map B = zs := by
  unfold bytesOf
  rw [List.map_map]
  conv => rhs; rw [← List.map_id zs]
  exact List.map_congr_left (fun z _ => B_list z)
theorem bytes_length (zs : List ByteArray) : (bytesOf zs).length = zs.length := by simp [bytesOf]
theorem bytes_at (zs : List ByteArray) (i : Nat) (h : i < zs.length) : (bytesOf zs)[i]'(by rw [bytes_length]; exact h) = (zs.getD i ByteArray.empty).data.toList := by
  simp [bytesOf, List.getD, List.getElem?_eq_getElem h]
theorem frs_tot : ∀ (zs : List ByteArray), tot zs ≤ 1000000 → (frs (bytesOf zs)).length ≤ tot zs + 29 * zs.length
  | [], _ => by simp [bytesOf, frs_nil]
  | z :: zs, h => by
    have e : tot (z :: zs) = z.size + tot zs := by simp [tot]
    have h2 := frs_tot zs (by omega)
    have h3 := frameL_le (p := z.data.toList) (by rw [size_list z]; unfold num.MX; omega)
    rw [size_list z] at h3
    show (frs (z.data.toList :: bytesOf zs)).length ≤ _
    rw [frs_cons, List.length_append, e, List.length_cons]
    omega
theorem size_tot : ∀ {zs : List ByteArray} {i : Nat}, i < zs.length → (zs.getD i ByteArray.empty).size ≤ tot zs
  | z :: zs, 0, _ => by simp [tot]
  | z :: zs, i + 1, h => by
    have e : tot (z :: zs) = z.size + tot zs := by simp [tot]
    have h2 := size_tot (zs := zs) (i := i) (by simpa using h)
    have e2 : (z :: zs).getD (i + 1) ByteArray.empty = zs.getD i ByteArray.empty := by simp [List.getD]
    rw [e, e2]; omega

set_option maxHeartbeats 4000000 in
set_option maxRecDepth 100000 in
theorem law8 (A : Option Addr) (c n : Nat) (zs : List ByteArray) (u : Nat) (w : World) (hn : n = zs.length) (_hA : A = none → c = 0) (hnc : n ≤ c) (hb1 : n ≤ maxLen) (hzs : ∀ z ∈ zs, z.size ≤ maxLen) (h1 : SRd w w.heap.size A zs) (hu : u < 65536) (hV : Vars w.heap.size w) :
    Calls Tryz.prog 8 #[.slice A n c, .int .u16 u] w fun e w' => e = .returned (.bool true) ∧ Below w.heap.size w w' := by
  have hb2 : n ≤ 9223372036854775807 := by unfold maxLen at hb1; omega
  have DD := stands_at hV
  have CG := Lib.hid (great A c w.heap.size n 40 8000 zs w hn hb2 (by omega) (by omega) hzs h1)
  have HV := Lib.hid hV
  have HR := Lib.hid h1
  have HN := Lib.hid hn
  clear hV hn hzs h1 hb1
  go_enter Tryz.func8, Tryz.ntmps8
  go_wp2_with fail
  go_at_call 20
  refine CG.out.mono ?_
  rintro e w0 ⟨rfl | ⟨rfl, h40, h8⟩, rfl⟩
  · go_wp2_with fail
    go_at_call 12
    refine (DD.out w (Below.refl _ _)).mono ?_
    rintro e w1 ⟨rfl, HB⟩
    go_wp2
    go_ret
    exact ⟨rfl, HB⟩
  have hn40 : n ≤ 40 := by rw [HN.out]; exact h40
  have HF : Hid (∀ i, i < n → ∀ W, Below w.heap.size w W → Calls Tryz.prog 13 #[.string (zs.getD i ByteArray.empty)] W fun e w' => e = retR (B (frameL (zs.getD i ByteArray.empty).data.toList)) ∧ Below W.heap.size W w') := Lib.hid (fun i hi W hW =>
    frame13 _ W (by have := size_tot (zs := zs) (i := i) (by rw [← HN.out]; exact hi); omega) (HV.out.next hW))
  have HX : Hid ((frs (bytesOf zs)).length ≤ 9160) := Lib.hid (by have := frs_tot zs (by omega); omega)
  have HT := Lib.hid (fun i (hi : i < n) => size_tot (zs := zs) (i := i) (by rw [← HN.out]; exact hi))
  have H8 := Lib.hid h8
  clear h8 h40 CG
  go_wp2_with fail
  go_loopg [5, 6] n (fun g s5 s6 wr => ∃ (i : Nat) (x : List UInt8), i ≤ n ∧ n - i ≤ g ∧ s6 = .int .i64 i ∧ s5 = .string (B x) ∧ Hid (x = frs ((bytesOf zs).take i)) ∧ Below w.heap.size w wr)
  case atStart => exact ⟨0, [], Nat.zero_le _, by omega, rfl, rfl, Lib.hid rfl, Below.refl _ _⟩
  case round =>
    obtain ⟨i, x, hi, hg, rfl, rfl, HX1, hbw⟩ := hrel
    have hxk : x.length ≤ 9160 := by have h1 := frs_take_le (bytesOf zs) i; rw [← HX1.out] at h1; have := HX.out; omega
    by_cases hlt : i < n
    · obtain ⟨b, o, rfl, hb, hc⟩ := HR.out (by rw [← HN.out]; omega)
      have g1 : wr.cell? ⟨b, o + i, none⟩ = some (.string (zs.getD i ByteArray.empty)) := by
        rw [hbw.cell (p := ⟨b, o + i, none⟩) hb, hc i (by rw [← HN.out]; exact hlt)]
      have F := Lib.hid (HF.out i hlt wr hbw)
      have hil : i < (bytesOf zs).length := by rw [bytes_length, ← HN.out]; exact hlt
      have HX2 := Lib.hid ((frs_take_succ hil).trans (by rw [← HX1.out, bytes_at zs i (by rw [← HN.out]; exact hlt)]))
      have hfl : (frameL (zs.getD i ByteArray.empty).data.toList).length ≤ 1000000 := by
        have h1 := HT.out i hlt
        have h2 := H8.out
        have := frameL_le (p := (zs.getD i ByteArray.empty).data.toList) (by rw [size_list]; unfold num.MX; omega)
        rw [size_list] at this; omega
      unfold retR at F
      generalize frameL (zs.getD i ByteArray.empty).data.toList = f at F HX2 hfl
      generalize zs.getD i ByteArray.empty = z at F g1
      clear hc hil hb
      go_wp2_with fail
      go_at_call 13
      refine F.out.mono ?_
      rintro e w2 ⟨rfl, hB2⟩
      have hbw2 := hbw.trans (hB2.mono hbw.size)
      clear F g1
      go_wp2
      go_roundg (n - (i + 1))
      case measure => omega
      case rel => exact ⟨i + 1, x ++ f, by omega, by omega, by go_num, by rw [← B_append], Lib.hid HX2.out.symm, hbw2⟩
    · obtain rfl : i = n := by omega
      have hx : x = frs (bytesOf zs) := by rw [HX1.out, HN.out, ← bytes_length zs, List.take_length]
      have HXX := Lib.hid hx
      have hlast : frs (bytesOf zs) = x := hx.symm
      obtain ⟨left, hleft⟩ : ∃ left, left = x.length - u % (x.length + 1) := ⟨_, rfl⟩
      have hm := Nat.mod_lt u (show 0 < x.length + 1 by omega)
      have hl : ((x.length : Int) - (u : Int) % ((x.length : Int) + 1)) = (left : Int) := by
        have e : ((u % (x.length + 1) : Nat) : Int) = (u : Int) % ((x.length : Int) + 1) := by first | (rw [Int.natCast_emod]; rfl) | (push_cast; rfl) | simp
        rw [← e]; omega
      have hq0 : (0 : Int) ≤ (u : Int) % ((x.length : Int) + 1) := Int.emod_nonneg _ (by omega)
      have hq1 : (u : Int) % ((x.length : Int) + 1) ≤ (x.length : Int) := by have := Int.emod_lt_of_pos (u : Int) (show (0 : Int) < (x.length : Int) + 1 by omega); omega
      have hlx : left ≤ x.length := by omega
      have hxs : (B x).size = x.length := B_size x
      have SL := front_slice (B x) (x.take left) left (by rw [List.length_take]; omega) (by rw [list_B]) (by rw [hxs]; exact hlx)
      have CW := Lib.hid (whole17 (B (x.take left)) wr (by rw [B_size (x.take left), List.length_take]; omega) (HV.out.next hbw))
      rw [list_B] at CW
      have ML : Hid (∀ p ∈ bytesOf zs, p.length ≤ MF) := Lib.hid (fun p hp => by
        obtain ⟨z, hz, rfl⟩ := List.mem_map.1 hp
        obtain ⟨j, hj, rfl⟩ := List.getElem_of_mem hz
        have h2 := HT.out j (by rw [HN.out]; exact hj)
        have h3 := H8.out
        have e : zs.getD j ByteArray.empty = zs[j] := by simp [List.getD, List.getElem?_eq_getElem hj]
        rw [e] at h2
        rw [size_list]; unfold MF; omega)
      clear hx HX1 HX hleft hm hlast hxs
      go_wp2_with fail
      go_at_call 17
      refine CW.out.mono ?_
      rintro e w2 ⟨hB2, ps, A2, n2, c2, k, hw2, hn2, hk2, hc2, hm2, rfl, hr2⟩
      have HB2 := hbw.trans (hB2.mono hbw.size)
      have hkl : k ≤ left := by
        have h3 := hw2.length_le
        rw [List.length_take] at h3; omega
      obtain ⟨d, hd, hq⟩ := IsWhole.drop ML.out (HXX.out ▸ hw2)
      have hzz : zs = ps.map B ++ d.map B := by rw [← List.map_append, ← hd, map_bytes]
      have hnn : i = n2 + d.length := by rw [HN.out, hzz, List.length_append, List.length_map, List.length_map, hn2]
      have hn2b : n2 ≤ i := by omega
      have R0 := (HR.out.below HB2).more HB2.size
      have S1 := Lib.hid (same_yes A2 A c2 c n2 (ps.map B) w2 (by rw [List.length_map]; exact hn2) (by omega) hr2 (SRd.head (hzz ▸ R0)))
      have SL1 := head_slice A i c n2 (by omega)
      have HQ := Lib.hid hq
      have HD := Lib.hid hd
      have HNN := Lib.hid hnn
      have H2 := Lib.hid (And.intro hn2 hk2)
      clear hw2 hn2 hk2 hc2 hm2 hr2 hd hq hzz hnn CW R0 SL
      by_cases hall : n2 = i
      · subst hall
        have hd0 : d = [] := List.eq_nil_of_length_eq_zero (by have := HNN.out; omega)
        subst hd0
        have hkx : k = x.length := by rw [H2.out.2, HXX.out, HD.out, List.append_nil]
        subst hkx
        clear HQ HD HNN H2 HXX
        go_wp2_with fail
        go_at_call 19
        refine S1.out.mono ?_
        rintro e w3 ⟨rfl, hB3⟩
        have HB3 := HB2.trans (hB3.mono HB2.size)
        go_wp2_with fail
        go_at_call 12
        refine (DD.out w3 HB3).mono ?_
        rintro e w4 ⟨rfl, HB4⟩
        go_wp2
        go_ret
        exact ⟨rfl, HB4⟩
      · have hlt2 : n2 < i := by omega
        obtain ⟨q, d', rfl⟩ := List.exists_cons_of_ne_nil (l := d) (fun e => by have := HNN.out; rw [e] at this; simp at this; omega)
        have hqk := HQ.out q d' rfl
        rw [← H2.out.2] at hqk
        obtain ⟨b, o, rfl, hb, hc⟩ := HR.out (by rw [← HN.out]; omega)
        have g1 : w2.cell? ⟨b, o + n2, none⟩ = some (.string (zs.getD n2 ByteArray.empty)) := by
          rw [HB2.cell (p := ⟨b, o + n2, none⟩) hb, hc n2 (by rw [← HN.out]; exact hlt2)]
        have F := Lib.hid (fun W hW => HF.out n2 hlt2 W hW)
        have hqz : (zs.getD n2 ByteArray.empty).data.toList = q := by
          rw [← bytes_at zs n2 (by rw [← HN.out]; exact hlt2)]
          have e := HD.out
          have : (bytesOf zs)[n2]? = some q := by rw [e, H2.out.1]; simp
          rw [List.getElem?_eq_getElem (by rw [bytes_length, ← HN.out]; exact hlt2)] at this
          exact Option.some.inj this
        rw [hqz] at F
        have hfl : (frameL q).length ≤ 1000000 := by
          have h1 := HT.out n2 hlt2
          have h2 := H8.out
          have h3 := frameL_le (p := q) (by rw [← hqz, size_list]; unfold num.MX; omega)
          rw [← size_list, hqz] at h1
          omega
        unfold retR at F
        generalize frameL q = f at F hfl hqk
        generalize zs.getD n2 ByteArray.empty = z at F g1
        clear HQ HD HNN H2 HXX hc hb hqz HF HT
        go_wp2_with fail
        go_at_call 19
        refine S1.out.mono ?_
        rintro e w3 ⟨rfl, hB3⟩
        have HB3 := HB2.trans (hB3.mono HB2.size)
        have g2 : w3.cell? ⟨b, o + n2, none⟩ = some (.string z) := by
          rw [hB3.cell (p := ⟨b, o + n2, none⟩) (World.block_lt_of_cell? _ _ g1)]; exact g1
        clear g1
        go_wp2_with fail
        go_at_call 13
        refine (F.out w3 HB3).mono ?_
        rintro e w4 ⟨rfl, hB4⟩
        have HB4 := HB3.trans (hB4.mono HB3.size)
        go_wp2_with fail
        go_at_call 12
        refine (DD.out w4 HB4).mono ?_
        rintro e w5 ⟨rfl, HB5⟩
        go_wp2
        go_ret
        exact ⟨rfl, HB5⟩
end Go.Proofs.YtljpclfeogiohaaGreatDoor.frm
