/- the law ArenaApart, run. -/
import Derived.Test.YtgjbhgdmgncoaaaF
namespace Go.Proofs.Ytgjbhgdmgncoaaa
open Go.Sx Go
set_option maxRecDepth 100000
noncomputable def cx6 : CX := callD tab sp1 (bxOf []) 400 12
theorem cx6_ok : CallsOk Try.prog cx6 := callD_ok sp1_ok noBx 400 12
def head6 : Fr := frame 123 100 [(0, actsS), (2, .bool (.lit false)), (3, .ptr 20 0 (.lit 0)), (4, vi 10)]
def mem6 : Mem := { know := ⟨(.var 10, 0, 20) :: actsF, []⟩, heap := [actsE, ⟨20, 0, false, 55, .lit 0, arenaC⟩], seg := 30, next := 0, nv := 400 }
noncomputable def loop6 : Fr → X (SX × Fr) := loopX tab cx6 (fun _ => none) 400 0 (loopBody 0 (bodyOf Try.f6)) 10 (.sub (.lit 20) (.var 10)) head6 mem6
theorem loop6_ok : LxOk Try.prog (6, 0, loop6) :=
  lx_ok Try.func6 (c := bodyOf Try.f6) rfl (b := loopBody 0 (bodyOf Try.f6)) (by kernel_rfl) (loopX_ok cx6_ok 400 0 _ (noBlocks_ok _ _) 10 _ _ _)
theorem bx6_ok : BxOk Try.prog (bxOf [(6, 0, loop6)]) := bxOf_ok (by intro x hx; simp only [List.mem_cons, List.not_mem_nil, or_false] at hx; subst hx; exact loop6_ok)
noncomputable def run6 (args : List SV) : X SV := callD tab sp1 (bxOf [(6, 0, loop6)]) 400 13 6 args
theorem run6_ok : SpecOk Try.prog 6 run6 := call_ok sp1_ok bx6_ok 400 13 6
theorem law6_run : allOf (run6 [actsS] actsMem) isTrue = true := by kernel_rfl
end Go.Proofs.Ytgjbhgdmgncoaaa
