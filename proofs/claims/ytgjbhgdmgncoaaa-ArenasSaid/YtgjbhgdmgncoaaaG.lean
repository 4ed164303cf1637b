/- the law Arenas, run. -/
import Derived.Test.YtgjbhgdmgncoaaaM
namespace Go.Proofs.Ytgjbhgdmgncoaaa
open Go.Sx Go
set_option maxRecDepth 100000
noncomputable def cx3 : CX := callD tab sp1 (bxOf []) 400 12
theorem cx3_ok : CallsOk Try.prog cx3 := callD_ok sp1_ok noBx 400 12
def head3 : Fr := frame 170 100 [(0, actsS), (2, .bool (.lit false)), (3, .ptr 20 0 (.lit 0)), (4, .ptr 21 0 (.lit 0)), (5, vi 10)]
def mem3 : Mem := { know := ⟨(.var 10, 0, 80) :: actsF, []⟩, heap := [actsE, ⟨20, 0, false, 55, .lit 0, arenaC⟩, ⟨21, 0, false, 48, .lit 0, arenaC⟩], seg := 30, next := 0, nv := 400 }
noncomputable def loop3 : Fr → X (SX × Fr) := loopX tab cx3 (fun _ => none) 400 0 (loopBody 0 (bodyOf Try.f3)) 10 (.sub (.lit 80) (.var 10)) head3 mem3
theorem loop3_ok : LxOk Try.prog (3, 0, loop3) :=
  lx_ok Try.func3 (c := bodyOf Try.f3) rfl (b := loopBody 0 (bodyOf Try.f3)) (by kernel_rfl) (loopX_ok cx3_ok 400 0 _ (noBlocks_ok _ _) 10 _ _ _)
theorem bx3_ok : BxOk Try.prog (bxOf [(3, 0, loop3)]) := bxOf_ok (by intro x hx; simp only [List.mem_cons, List.not_mem_nil, or_false] at hx; subst hx; exact loop3_ok)
noncomputable def run3 (args : List SV) : X SV := callD tab sp2 (bxOf [(3, 0, loop3)]) 400 13 3 args
theorem run3_ok : SpecOk Try.prog 3 run3 := call_ok sp2_ok bx3_ok 400 13 3
theorem law3_run : allOf (run3 [actsS] actsMem) isTrue = true := by kernel_rfl
end Go.Proofs.Ytgjbhgdmgncoaaa
