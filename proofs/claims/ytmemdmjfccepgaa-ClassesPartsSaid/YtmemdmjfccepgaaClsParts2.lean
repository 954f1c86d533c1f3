/- ClassesParts: some bytes. -/
import Derived.Test.YtmemdmjfccepgaaClsParts0
namespace Go.Proofs.Ytmemdmjfccepgaa.cls
open Go.RowKit Go.Lib
set_option linter.unusedVariables false
set_option linter.unusedSimpArgs false
set_option linter.unnecessarySimpa false
set_option linter.unusedSectionVars false

set_option maxHeartbeats 8000000 in
set_option maxRecDepth 100000 in
theorem parts8_1 (c : Nat) (h : (9 ≤ c ∧ c ≤ 9)) (w : World) (hV : Vs w.heap.size w) :
    Calls Try.prog 8 #[.int .u8 (c : Int)] w fun e w' => e = .returned (.bool true) ∧ Below w.heap.size w w' := by
  have hc : c < 256 := by omega
  have hcell : (w.alloc (.cells #[.int .u8 (c : Int)] 5)).cell? ⟨w.heap.size, 0, none⟩ = some (.int .u8 (c : Int)) := by
    have hn := new_at w (.cells #[.int .u8 (c : Int)] 5)
    unfold World.cell?
    simp only [hn]
    rfl
  have hp : w.heap.size < (w.alloc (.cells #[.int .u8 (c : Int)] 5)).heap.size := by simp
  have b0 : fLower c = false := by simp [fLower, fPunct, fAlnum, fAlpha, fLower, fUpper, fDigit, fGraph, btw, or2]; try omega
  have C0 := Lib.hid (inK nLower fLower false _ c _ (by decide) rfl b0 hc hcell hp)
  have b1 : fUpper c = false := by simp [fUpper, fPunct, fAlnum, fAlpha, fLower, fUpper, fDigit, fGraph, btw, or2]; try omega
  have C1 := Lib.hid (inK nUpper fUpper false _ c _ (by decide) rfl b1 hc hcell hp)
  have b2 : fAlpha c = false := by simp [fAlpha, fPunct, fAlnum, fAlpha, fLower, fUpper, fDigit, fGraph, btw, or2]; try omega
  have C2 := Lib.hid (inK nAlpha fAlpha false _ c _ (by decide) rfl b2 hc hcell hp)
  have b3 : fDigit c = false := by simp [fDigit, fPunct, fAlnum, fAlpha, fLower, fUpper, fDigit, fGraph, btw, or2]; try omega
  have C3 := Lib.hid (inK nDigit fDigit false _ c _ (by decide) rfl b3 hc hcell hp)
  have b4 : fAlnum c = false := by simp [fAlnum, fPunct, fAlnum, fAlpha, fLower, fUpper, fDigit, fGraph, btw, or2]; try omega
  have C4 := Lib.hid (inK nAlnum fAlnum false _ c _ (by decide) rfl b4 hc hcell hp)
  have b5 : fXdigit c = false := by simp [fXdigit, fPunct, fAlnum, fAlpha, fLower, fUpper, fDigit, fGraph, btw, or2]; try omega
  have C5 := Lib.hid (inK nXdigit fXdigit false _ c _ (by decide) rfl b5 hc hcell hp)
  have b6 : fSpace c = true := by simp [fSpace, fPunct, fAlnum, fAlpha, fLower, fUpper, fDigit, fGraph, btw, or2]; try omega
  have C6 := Lib.hid (inK nSpace fSpace true _ c _ (by decide) rfl b6 hc hcell hp)
  have b7 : fBlank c = true := by simp [fBlank, fPunct, fAlnum, fAlpha, fLower, fUpper, fDigit, fGraph, btw, or2]; try omega
  have C7 := Lib.hid (inK nBlank fBlank true _ c _ (by decide) rfl b7 hc hcell hp)
  have b8 : fCntrl c = true := by simp [fCntrl, fPunct, fAlnum, fAlpha, fLower, fUpper, fDigit, fGraph, btw, or2]; try omega
  have C8 := Lib.hid (inK nCntrl fCntrl true _ c _ (by decide) rfl b8 hc hcell hp)
  have b9 : fGraph c = false := by simp [fGraph, fPunct, fAlnum, fAlpha, fLower, fUpper, fDigit, fGraph, btw, or2]; try omega
  have C9 := Lib.hid (inK nGraph fGraph false _ c _ (by decide) rfl b9 hc hcell hp)
  have b10 : fPrint c = false := by simp [fPrint, fPunct, fAlnum, fAlpha, fLower, fUpper, fDigit, fGraph, btw, or2]; try omega
  have C10 := Lib.hid (inK nPrint fPrint false _ c _ (by decide) rfl b10 hc hcell hp)
  have b11 : fPunct c = false := by simp [fPunct, fPunct, fAlnum, fAlpha, fLower, fUpper, fDigit, fGraph, btw, or2]; try omega
  have C11 := Lib.hid (inK nPunct fPunct false _ c _ (by decide) rfl b11 hc hcell hp)
  clear b0 b1 b2 b3 b4 b5 b6 b7 b8 b9 b10 b11
  have HB := Lib.hid ((Below.refl w.heap.size w).alloc (Nat.le_refl _) (.cells #[.int .u8 (c : Int)] 5))
  have HV := Lib.hid hV
  have HK := Lib.hid (Below.refl (w.alloc (.cells #[.int .u8 (c : Int)] 5)).heap.size (w.alloc (.cells #[.int .u8 (c : Int)] 5)))
  clear hV hp
  have k0 := hcell
  have KK : Hid (∀ W, Below (w.alloc (.cells #[.int .u8 (c : Int)] 5)).heap.size (w.alloc (.cells #[.int .u8 (c : Int)] 5)) W → W.cell? ⟨w.heap.size, 0, none⟩ = some (.int .u8 (c : Int))) := Lib.hid fun W hW => (hW.cell (p := ⟨w.heap.size, 0, none⟩) (by simp)).trans hcell
  clear hcell
  have e32 : ((c : Int) == 32) = false := by simp; omega
  go_enter Try.func8, Try.ntmps8
  go_wp2_with fail
  go_at_call 16
  refine (C2.out _ HK.out).mono ?_
  rintro e x ⟨rfl, hx⟩
  clear HK k0
  have HK := Lib.hid hx
  have k0 := KK.out _ hx
  clear hx
  go_wp2_with fail
  go_at_call 16
  refine (C0.out _ HK.out).mono ?_
  rintro e x ⟨rfl, hx⟩
  clear HK k0
  have HK := Lib.hid hx
  have k0 := KK.out _ hx
  clear hx
  go_wp2_with fail
  go_at_call 16
  refine (C1.out _ HK.out).mono ?_
  rintro e x ⟨rfl, hx⟩
  clear HK k0
  have HK := Lib.hid hx
  have k0 := KK.out _ hx
  clear hx
  go_wp2_with fail
  go_at_call 16
  refine (C4.out _ HK.out).mono ?_
  rintro e x ⟨rfl, hx⟩
  clear HK k0
  have HK := Lib.hid hx
  have k0 := KK.out _ hx
  clear hx
  go_wp2_with fail
  go_at_call 16
  refine (C2.out _ HK.out).mono ?_
  rintro e x ⟨rfl, hx⟩
  clear HK k0
  have HK := Lib.hid hx
  have k0 := KK.out _ hx
  clear hx
  go_wp2_with fail
  go_at_call 16
  refine (C3.out _ HK.out).mono ?_
  rintro e x ⟨rfl, hx⟩
  clear HK k0
  have HK := Lib.hid hx
  have k0 := KK.out _ hx
  clear hx
  go_wp2_with fail
  go_at_call 16
  refine (C10.out _ HK.out).mono ?_
  rintro e x ⟨rfl, hx⟩
  clear HK k0
  have HK := Lib.hid hx
  have k0 := KK.out _ hx
  clear hx
  go_wp2_with fail
  go_at_call 16
  refine (C9.out _ HK.out).mono ?_
  rintro e x ⟨rfl, hx⟩
  clear HK k0
  have HK := Lib.hid hx
  have k0 := KK.out _ hx
  clear hx
  go_wp2_with fail
  go_at_call 16
  refine (C9.out _ HK.out).mono ?_
  rintro e x ⟨rfl, hx⟩
  clear HK k0
  have HK := Lib.hid hx
  have k0 := KK.out _ hx
  clear hx
  go_wp2_with fail
  go_at_call 16
  refine (C4.out _ HK.out).mono ?_
  rintro e x ⟨rfl, hx⟩
  clear HK k0
  have HK := Lib.hid hx
  have k0 := KK.out _ hx
  clear hx
  go_wp2_with fail
  go_at_call 16
  refine (C11.out _ HK.out).mono ?_
  rintro e x ⟨rfl, hx⟩
  clear HK k0
  have HK := Lib.hid hx
  have k0 := KK.out _ hx
  clear hx
  go_wp2_with fail
  go_at_call 16
  refine (C4.out _ HK.out).mono ?_
  rintro e x ⟨rfl, hx⟩
  clear HK k0
  have HK := Lib.hid hx
  have k0 := KK.out _ hx
  clear hx
  go_wp2_with fail
  go_at_call 16
  refine (C8.out _ HK.out).mono ?_
  rintro e x ⟨rfl, hx⟩
  clear HK k0
  have HK := Lib.hid hx
  have k0 := KK.out _ hx
  clear hx
  go_wp2_with fail
  go_at_call 16
  refine (C10.out _ HK.out).mono ?_
  rintro e x ⟨rfl, hx⟩
  clear HK k0
  have HK := Lib.hid hx
  have k0 := KK.out _ hx
  clear hx
  go_wp2_with fail
  go_at_call 16
  refine (C7.out _ HK.out).mono ?_
  rintro e x ⟨rfl, hx⟩
  clear HK k0
  have HK := Lib.hid hx
  have k0 := KK.out _ hx
  clear hx
  go_wp2_with fail
  go_at_call 16
  refine (C6.out _ HK.out).mono ?_
  rintro e x ⟨rfl, hx⟩
  clear HK k0
  have HK := Lib.hid hx
  have k0 := KK.out _ hx
  clear hx
  go_wp2_with fail
  go_at_call 16
  refine (C5.out _ HK.out).mono ?_
  rintro e x ⟨rfl, hx⟩
  clear HK k0
  have HK := Lib.hid hx
  have k0 := KK.out _ hx
  clear hx
  go_wp2_with fail
  go_at_call 16
  refine (C0.out _ HK.out).mono ?_
  rintro e x ⟨rfl, hx⟩
  clear HK k0
  have HK := Lib.hid hx
  have k0 := KK.out _ hx
  clear hx
  go_wp2_with fail
  go_at_call 16
  refine (C8.out _ HK.out).mono ?_
  rintro e x ⟨rfl, hx⟩
  clear HK k0
  have HK := Lib.hid hx
  have k0 := KK.out _ hx
  clear hx
  go_wp2_with fail
  go_at_call 12
  have hB1 := HB.out.trans (HK.out.mono (by simp))
  refine (does_is _ ((HV.out.below hB1).more (Nat.le_trans (by simp) HK.out.size))).mono ?_
  rintro e y ⟨rfl, hy⟩
  have HY := Lib.hid (hB1.trans (hy.mono (Nat.le_trans (by simp) HK.out.size)))
  clear hy hB1
  go_wp2
  go_ret
  exact ⟨rfl, HY.out⟩
end Go.Proofs.Ytmemdmjfccepgaa.cls
