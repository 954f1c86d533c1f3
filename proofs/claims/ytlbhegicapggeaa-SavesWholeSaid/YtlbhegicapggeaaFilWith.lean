/- Files, the laws: what is done to a file system, one thing of it. -/
import Derived.Test.YtlbhegicapggeaaFilFail
namespace Go.Proofs.Ytlbhegicapggeaa.fil
open Go.RowKit Go.Lib Go.Maps Go.WideMaps
set_option linter.unusedVariables false
set_option linter.unusedSimpArgs false
set_option linter.unnecessarySimpa false
set_option linter.unusedSectionVars false

/-- A thing that is done. -/
structure Dt where
  what : Nat
  a : ByteArray
  b : ByteArray
  t : ByteArray
  n : Int
  kA : Option Addr
  kc : Nat
  k : List Int
def Dt.cells (d : Dt) : List Value := [.int .u8 d.what, .string d.a, .string d.b, .string d.t, .int .i64 d.n, .slice d.kA d.k.length d.kc]
def Dt.val (d : Dt) : Value := .agg #[.int .u8 d.what, .string d.a, .string d.b, .string d.t, .int .i64 d.n, .slice d.kA d.k.length d.kc]
structure Dt.Ok (d : Dt) : Prop where
  what : d.what < 256
  a : d.a.size ≤ maxLen
  b : d.b.size ≤ maxLen
  t : d.t.size ≤ maxLen
  n1 : -9223372036854775808 ≤ d.n
  n2 : d.n ≤ 9223372036854775807
  k : d.k.length ≤ d.kc
  kc : d.kc ≤ maxLen

def step (s : St) (d : Dt) : Int × St :=
  if d.what % 12 = 3 ∨ d.what % 12 = 4 then sSync s d.a.data.toList
  else if d.what % 12 = 5 then sTrunc s d.a.data.toList d.n
  else if d.what % 12 = 6 then sRename s d.a.data.toList d.b.data.toList
  else if d.what % 12 = 7 then sRemove s d.a.data.toList
  else if d.what % 12 = 8 then sCrash s d.k
  else if d.what % 12 = 9 ∨ d.what % 12 = 10 then sStart s
  else if d.what % 12 = 11 then sFail s d.n d.k
  else sAppend s d.a.data.toList d.t.data.toList
theorem ok_step {s : St} (h : Ok s) {d : Dt} (hd : d.Ok) : Ok (step s d).2 := by
  unfold step
  repeat' split
  · exact ok_sync h _
  · exact ok_trunc h _ _
  · exact ok_rename h _ _
  · exact ok_remove h _
  · exact ok_sCrash h _
  · exact ok_start h
  · exact ok_fail h _ _ hd.n2
  · exact ok_append h _ _
theorem stroke_starts (s : St) (e : Int) (early : Bool) (t : List Fl) : (stroke s e early t).2.starts = s.starts := by
  unfold stroke crash
  repeat' split
  all_goals rfl
theorem step_starts (s : St) (d : Dt) : (step s d).2.starts ≤ s.starts + 1 := by
  unfold step sSync sTrunc sRename sRemove sAppend
  repeat' split
  all_goals first
    | (rw [stroke_starts]; omega)
    | (unfold sCrash crash; split <;> simp)
    | (unfold sStart; split <;> simp)
    | (unfold sFail; repeat' split
       all_goals simp)

section
variable {w w' : World} {F : Nat → Prop} {fb : Nat} {s : St}
end
end Go.Proofs.Ytlbhegicapggeaa.fil
