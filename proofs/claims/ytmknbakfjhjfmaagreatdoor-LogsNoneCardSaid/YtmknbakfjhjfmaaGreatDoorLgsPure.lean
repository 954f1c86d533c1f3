/- Logs on plain lists of bytes: the chapter's journal, and what the file system is behind each of its steps. Nothing of the program is used. -/
import Derived.Test.YtmknbakfjhjfmaaGreatDoorFrmPure2
import Derived.Test.YtmknbakfjhjfmaaGreatDoorSplPure
import Derived.Test.YtmknbakfjhjfmaaGreatDoorFilTell
import Derived.KernelRfl
namespace Go.Proofs.YtmknbakfjhjfmaaGreatDoor.lgs
open Go.Proofs.YtmknbakfjhjfmaaGreatDoor.num Go.Proofs.YtmknbakfjhjfmaaGreatDoor.sum Go.Proofs.YtmknbakfjhjfmaaGreatDoor.frm Go.Proofs.YtmknbakfjhjfmaaGreatDoor.fil Go.Lib

/-- The names: log, log+. -/
def logL : List UInt8 := [108, 111, 103]
def drfL : List UInt8 := [108, 111, 103, 43]
/-- The payloads, and their frames. -/
def P1 : List UInt8 := 98 :: putL [[97], [98]]
def C1 : List UInt8 := 99 :: putL [sps.enc 1 0 [[120]]]
def J : List UInt8 := frameL P1
def K : List UInt8 := frameL C1
/-- The file system behind each step. -/
def s0 : St := sNew 10000
def sA : St := ⟨10000, [⟨drfL, J, 0⟩], false, 0, none⟩
def sB : St := ⟨10000, [⟨drfL, J, J.length⟩], false, 0, none⟩
def s1 : St := ⟨10000, [⟨logL, J, J.length⟩], false, 0, none⟩
def s2 : St := ⟨10000, [⟨logL, J ++ K, J.length⟩], false, 0, none⟩
def s3 : St := ⟨10000, [⟨logL, J, J.length⟩], true, 0, none⟩
def s4 : St := ⟨10000, [⟨logL, J, J.length⟩], false, 1, none⟩
def s5 : St := ⟨10000, [], false, 1, none⟩
theorem rm0 : sRemove s0 drfL = (4, s0) := by kernel_rfl
theorem app0 : sAppend s0 drfL J = (0, sA) := by kernel_rfl
theorem syn0 : sSync sA drfL = (0, sB) := by kernel_rfl
theorem ren0 : sRename sB drfL logL = (0, s1) := by kernel_rfl
theorem app1 : sAppend s1 logL K = (0, s2) := by kernel_rfl
theorem cra2 : sCrash s2 [] = (0, s3) := by kernel_rfl
theorem sta3 : sStart s3 = (0, s4) := by kernel_rfl
theorem rm4 : sRemove s4 drfL = (4, s4) := by kernel_rfl
theorem rm5 : sRemove s4 logL = (0, s5) := by kernel_rfl
theorem rd2 : reads s2 logL = (J ++ K, 0) := by kernel_rfl
theorem rd4 : reads s4 logL = (J, 0) := by kernel_rfl
theorem rd5 : reads s5 logL = ([], 4) := by kernel_rfl
theorem P1_len : P1.length ≤ 100 := by decide +kernel
theorem C1_len : C1.length ≤ 100 := by decide +kernel
theorem JK_len : (J ++ K).length ≤ 300 := by decide +kernel
theorem K_len : K.length ≤ 200 := by decide +kernel
theorem J_len : J.length ≤ 200 := by decide +kernel
theorem whole2 {ps : List (List UInt8)} (h : IsWhole (J ++ K) ps) : ps = [P1, C1] := by
  have e : IsWhole (J ++ K) [P1, C1] := ⟨by
    intro p hp
    have := P1_len; have := C1_len
    simp only [List.mem_cons, List.not_mem_nil, or_false] at hp
    rcases hp with rfl | rfl <;> (unfold MF; omega), [], by rw [frs_cons, frs_cons, frs_nil, List.append_nil, List.append_nil]; rfl, nextL_empty⟩
  exact h.uniq e
theorem whole1 {ps : List (List UInt8)} (h : IsWhole J ps) : ps = [P1] := by
  have e : IsWhole J [P1] := ⟨by
    intro p hp
    have := P1_len
    simp only [List.mem_cons, List.not_mem_nil, or_false] at hp
    subst hp; unfold MF; omega, [], by rw [frs_cons, frs_nil, List.append_nil, List.append_nil]; rfl, nextL_empty⟩
  exact h.uniq e
/-- A system that is down. -/
theorem down_rm {s : St} (h : s.off = true) (nm : List UInt8) : sRemove s nm = (51, s) := by unfold sRemove stroke; rw [if_pos h]
end Go.Proofs.YtmknbakfjhjfmaaGreatDoor.lgs
