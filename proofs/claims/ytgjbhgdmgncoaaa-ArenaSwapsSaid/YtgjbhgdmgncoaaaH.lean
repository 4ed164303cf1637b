/- the law ArenaSwaps, run. -/
import Derived.Test.YtgjbhgdmgncoaaaF
namespace Go.Proofs.Ytgjbhgdmgncoaaa
open Go.Sx Go
set_option maxRecDepth 100000
noncomputable def cx4 : CX := callD tab sp1 (bxOf []) 400 12
theorem cx4_ok : CallsOk Try.prog cx4 := callD_ok sp1_ok noBx 400 12
def head4 : Fr := frame 104 100 [(0, actsS), (2, .bool (.lit false)), (3, .ptr 20 0 (.lit 0)), (4, .sli 21 0 (.lit 0) (.lit 634) (.lit 634)), (5, vi 10)]
def mem4 : Mem := { know := ⟨(.var 10, 0, 60) :: actsF, []⟩, heap := [actsE, ⟨20, 0, false, 55, .lit 0, arenaC⟩, ⟨21, 0, false, 46, .lit 0, wordsC⟩], seg := 30, next := 0, nv := 400 }
noncomputable def loop4 : Fr → X (SX × Fr) := loopX tab cx4 (fun _ => none) 400 0 (loopBody 0 (bodyOf Try.f4)) 10 (.sub (.lit 60) (.var 10)) head4 mem4
theorem loop4_ok : LxOk Try.prog (4, 0, loop4) :=
  lx_ok Try.func4 (c := bodyOf Try.f4) rfl (b := loopBody 0 (bodyOf Try.f4)) (by kernel_rfl) (loopX_ok cx4_ok 400 0 _ (noBlocks_ok _ _) 10 _ _ _)
theorem bx4_ok : BxOk Try.prog (bxOf [(4, 0, loop4)]) := bxOf_ok (by intro x hx; simp only [List.mem_cons, List.not_mem_nil, or_false] at hx; subst hx; exact loop4_ok)
noncomputable def run4 (args : List SV) : X SV := callD tab sp1 (bxOf [(4, 0, loop4)]) 400 13 4 args
theorem run4_ok : SpecOk Try.prog 4 run4 := call_ok sp1_ok bx4_ok 400 13 4
theorem law4_run : allOf (run4 [actsS] actsMem) isTrue = true := by kernel_rfl
end Go.Proofs.Ytgjbhgdmgncoaaa
