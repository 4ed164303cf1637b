/- the law ArenaForms, run. -/
import Derived.Test.YtgjbhgdmgncoaaaA
namespace Go.Proofs.Ytgjbhgdmgncoaaa
open Go.Sx Go
set_option maxRecDepth 100000
noncomputable def sp1 : Specs := spOf [(19, touchX samePat), (20, touchX spoilPat)]
theorem sp1_ok : SpecsOk Try.prog sp1 := spOf_ok (by
  intro x hx
  simp only [List.mem_cons, List.not_mem_nil, or_false] at hx
  rcases hx with rfl | rfl
  · exact same_ok
  · exact spoil_ok)
theorem noBx : BxOk Try.prog (bxOf []) := bxOf_ok (by intro x hx; cases hx)
noncomputable def run1 (f : Nat) (args : List SV) : X SV := callD tab sp1 (bxOf []) 400 12 f args
theorem run1_ok (f : Nat) : SpecOk Try.prog f (run1 f) := call_ok sp1_ok noBx 400 12 f
theorem awake_run : allOf (run1 21 [] (mem0 1)) isTrue = true := by kernel_rfl
end Go.Proofs.Ytgjbhgdmgncoaaa
