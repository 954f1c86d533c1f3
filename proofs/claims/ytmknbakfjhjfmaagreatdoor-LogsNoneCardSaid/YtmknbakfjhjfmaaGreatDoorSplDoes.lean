/- Splices: the law's examples come out. -/
import Derived.Test.YtmknbakfjhjfmaaGreatDoorSplEnc
import Derived.Test.YtmknbakfjhjfmaaGreatDoorPceDoes
import Derived.Test.YtmknbakfjhjfmaaGreatDoorSplAll
namespace Go.Proofs.YtmknbakfjhjfmaaGreatDoor.sps
open Go.RowKit Go.Lib pce
set_option linter.unusedVariables false
set_option linter.unusedSimpArgs false
set_option linter.unnecessarySimpa false
set_option linter.unusedSectionVars false

abbrev Ln : ByteArray := ⟨#[]⟩
theorem lit_lst (w : World) (zs : List ByteArray) (n : Nat) (hn : n = zs.length) : Lst (w.alloc (.cells (zs.map Value.string).toArray 9)) (fun _ => True) (some ⟨w.heap.size, 0, none⟩) n n zs :=
  ⟨hn, Nat.le_refl _, (fun h => (by cases h)), (VRd.of_srd (lit_srd w zs) (Nat.le_refl _)).mono fun _ _ _ => trivial⟩
theorem lst_alloc {w : World} {F : Nat → Prop} {A : Option Addr} {n c : Nat} {zs : List ByteArray} (h : Lst w F A n c zs) (o : Obj) : Lst (w.alloc o) F A n c zs := h.below ((Below.refl _ _).alloc (Nat.le_refl _) _)
theorem putN_small {n : Nat} (h : n < 10) : num.putN n = [UInt8.ofNat (48 + n), 58] := by unfold num.putN; rw [num.dec_small h]; rfl
theorem encX : enc 1 2 (num.bytesOf [Lb, Ln]) = [49, 58, 50, 58, 50, 58, 49, 58, 98, 48, 58] := by
  have e : num.bytesOf [Lb, Ln] = [[98], []] := rfl
  rw [e]
  unfold enc num.putL num.putT
  rw [putN_small (by decide), putN_small (by decide), show [[(98 : UInt8)], []].length = 2 from rfl, putN_small (by decide), List.flatMap_cons, List.flatMap_cons, List.flatMap_nil]
  rw [show [(98 : UInt8)].length = 1 from rfl, show ([] : List UInt8).length = 0 from rfl, putN_small (by decide), putN_small (by decide)]
  rfl
/-- What stands behind the examples' first lines: two lists and a splice. -/
structure Exs (w W : World) : Prop where
  below : Below w.heap.size w W
  l : Lst W (fun _ => True) (some ⟨w.heap.size, 0, none⟩) 3 3 [La, Lb, Lc]
  i : Lst W (fun _ => True) (some ⟨w.heap.size + 1, 0, none⟩) 2 2 [Lx, Ly]
  s : At W (w.heap.size + 2) 46 #[.int .i64 1, .int .i64 1, .slice (some ⟨w.heap.size + 1, 0, none⟩) 2 2]
theorem Exs.next {w W W' : World} (h : Exs w W) (hB : Below W.heap.size W W') : Exs w W' :=
  ⟨h.below.trans (hB.mono h.below.size), h.l.below hB, h.i.below hB, h.s.same (hB.block _ h.s.lt)⟩
theorem exs_mk (w : World) : Exs w (((w.alloc (.cells #[.string La, .string Lb, .string Lc] 9)).alloc (.cells #[.string Lx, .string Ly] 9)).alloc (.cells #[.int .i64 1, .int .i64 1, .slice (some ⟨w.heap.size + 1, 0, none⟩) 2 2] 46)) := by
  have h1 := lit_lst w [La, Lb, Lc] 3 rfl
  have h2 := lit_lst (w.alloc (.cells #[.string La, .string Lb, .string Lc] 9)) [Lx, Ly] 2 rfl
  rw [World.size_alloc] at h2
  have h3 := At.new ((w.alloc (.cells #[.string La, .string Lb, .string Lc] 9)).alloc (.cells #[.string Lx, .string Ly] 9)) 46 #[.int .i64 1, .int .i64 1, .slice (some ⟨w.heap.size + 1, 0, none⟩) 2 2]
  rw [World.size_alloc, World.size_alloc] at h3
  exact ⟨(((Below.refl _ _).alloc (Nat.le_refl _) _).alloc (by simp) _).alloc (by simp; omega) _, lst_alloc (lst_alloc h1 _) _, lst_alloc h2 _, h3⟩

theorem app1 : appK [La, Lb, Lc] 1 1 [Lx, Ly] = 0 := by decide
theorem app2 : appK [La] 1 1 [] = 2 := by decide
theorem chk3 : chkS 1 2 [Lb, Ln] = 0 := by decide
theorem encodeX (W : World) (hV : VarT W.heap.size W) : Calls Tryz.prog 37 #[.agg #[.int .i64 1, .int .i64 2, .slice (some ⟨W.heap.size, 0, none⟩) 2 2]] (W.alloc (.cells #[.string Lb, .string Ln] 9)) fun e w' =>
    e = .returned (.tuple #[.string ⟨#[49, 58, 50, 58, 50, 58, 49, 58, 98, 48, 58]⟩, .int .i64 0]) ∧ Below W.heap.size W w' := by
  have hB0 : Below W.heap.size W (W.alloc (.cells #[.string Lb, .string Ln] 9)) := (Below.refl _ _).alloc (Nat.le_refl _) _
  refine (encode_is 1 2 _ 2 2 [Lb, Ln] (W.alloc (.cells #[.string Lb, .string Ln] 9)) 0 chk3 (by omega) (by omega) (by omega) (by omega) rfl (by omega) (by decide) (lit_lst W [Lb, Ln] 2 rfl).srd (hV.next hB0)).mono ?_
  rintro e w' ⟨hB, ⟨h0, _⟩ | ⟨_, rfl⟩⟩
  · exact absurd rfl h0
  · refine ⟨?_, hB0.trans (hB.mono (by simp))⟩
    show Ending.returned (.tuple #[.string (B (enc 1 2 (num.bytesOf [Lb, Ln]))), .int .i64 0]) = _
    rw [encX]
end Go.Proofs.YtmknbakfjhjfmaaGreatDoor.sps
