/- contracts of SameInts and SpoilInts, by runs over patterns. -/
import Derived.Test.YtgjbhgdmgncoaaaTab
namespace Go.Proofs.Ytgjbhgdmgncoaaa
open Go.Sx Go
set_option maxRecDepth 100000

def bodyOf (f : Func) : Code := f.body.getD .skip
abbrev vi (k : Nat) : SV := .int .i64 (.var k)
abbrev hi : Int := 9223372036854775807
/-- SameInts over two slices whose numbers are the same -/
abbrev sameArgs : Fr := [.sli 1 0 (.var 2) (.var 3) (.var 4), .sli 5 0 (.var 7) (.var 3) (.var 8)]
abbrev rowC : SV := .cons (.arr .i64 6 (.var 3) .nil) .nil
def sameMem (nv : Nat) (more : List Fact) : Mem := { know := ⟨more ++ [(.var 2, 0, hi), (.var 3, 0, hi), (.var 7, 0, hi)], []⟩, heap := [⟨1, 0, true, 0, .var 2, rowC⟩, ⟨5, 0, true, 0, .var 7, rowC⟩], seg := 0, next := 0, nv }
def opqs (a n : Nat) : Fr := (List.range n).map fun i => .opq (a + i)
def sameHead : Fr := sameArgs ++ opqs 12 2 ++ [.bool (.lit false), vi 10] ++ opqs 16 20
noncomputable def sameLoop : Fr → X (SX × Fr) := loopX tab noCalls (fun _ => none) 60 0 (loopBody 0 (bodyOf Try.f19)) 10 (.sub (.var 3) (.var 10)) sameHead (sameMem 50 [(.var 10, 0, hi)])
theorem sameLoop_ok : LxOk Try.prog (19, 0, sameLoop) :=
  lx_ok Try.func19 (c := bodyOf Try.f19) rfl (b := loopBody 0 (bodyOf Try.f19)) (by kernel_rfl) (loopX_ok (noCalls_ok _) 60 0 _ (noBlocks_ok _ _) 10 _ _ _)
theorem sameBx : BxOk Try.prog (bxOf [(19, 0, sameLoop)]) := bxOf_ok (by intro x hx; simp only [List.mem_cons, List.not_mem_nil, or_false] at hx; subst hx; exact sameLoop_ok)
theorem noSpecs : SpecsOk Try.prog (spOf []) := spOf_ok (by intro x hx; cases hx)
noncomputable def same0 (args : List SV) : X SV := callD tab (spOf []) (bxOf [(19, 0, sameLoop)]) 60 1 19 args
def samePat : Pat := { args := sameArgs, mem := sameMem 10 [], val := .bool (.lit true) }
theorem same_run : patRun same0 samePat = true := by kernel_rfl
theorem call_spec {bx : Nat → BX} (hbx : BxOk Try.prog bx) (fuel d f : Nat) : SpecOk Try.prog f (fun args => callD tab (spOf []) bx fuel d f args) := call_ok noSpecs hbx fuel d f
theorem same0_ok : SpecOk Try.prog 19 same0 := call_spec sameBx 60 1 19
theorem same_ok : SpecOk Try.prog 19 (touchX samePat) := touchR_ok same0_ok samePat same_run
/-- SpoilInts over all numbers of a block of its own -/
abbrev spoilArgs : Fr := [.sli 1 0 (.lit 0) (.lit 634) (.lit 634)]
def spoilMem (r nv : Nat) (more : List Fact) : Mem := { know := ⟨more, []⟩, heap := [⟨1, 0, false, 46, .lit 0, .cons (.arr .i64 r (.lit 634) .nil) .nil⟩], seg := 0, next := 0, nv }
def spoilHead : Fr := spoilArgs ++ opqs 12 1 ++ [vi 10] ++ opqs 16 14
noncomputable def spoilLoop : Fr → X (SX × Fr) := loopX tab noCalls (fun _ => none) 60 0 (loopBody 0 (bodyOf Try.f20)) 10 (.sub (.lit 634) (.var 10)) spoilHead (spoilMem 11 50 [(.var 10, 0, hi)])
theorem spoilLoop_ok : LxOk Try.prog (20, 0, spoilLoop) :=
  lx_ok Try.func20 (c := bodyOf Try.f20) rfl (b := loopBody 0 (bodyOf Try.f20)) (by kernel_rfl) (loopX_ok (noCalls_ok _) 60 0 _ (noBlocks_ok _ _) 10 _ _ _)
theorem spoilBx : BxOk Try.prog (bxOf [(20, 0, spoilLoop)]) := bxOf_ok (by intro x hx; simp only [List.mem_cons, List.not_mem_nil, or_false] at hx; subst hx; exact spoilLoop_ok)
def spoilPat : Pat := { args := spoilArgs, mem := spoilMem 6 10 [], val := .tup .nil }
noncomputable def spoil0 (args : List SV) : X SV := callD tab (spOf []) (bxOf [(20, 0, spoilLoop)]) 60 1 20 args
theorem spoil0_ok : SpecOk Try.prog 20 spoil0 := call_spec spoilBx 60 1 20
theorem spoil_run : patRun spoil0 spoilPat = true := by kernel_rfl
theorem spoil_ok : SpecOk Try.prog 20 (touchX spoilPat) := touchR_ok spoil0_ok spoilPat spoil_run
end Go.Proofs.Ytgjbhgdmgncoaaa
