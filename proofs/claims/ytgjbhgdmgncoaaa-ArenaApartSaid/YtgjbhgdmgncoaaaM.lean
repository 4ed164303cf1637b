/- what `awake` makes of a world, in one step. -/
import Derived.Test.YtgjbhgdmgncoaaaF
namespace Go.Proofs.Ytgjbhgdmgncoaaa
open Go.Sx Go
set_option maxRecDepth 100000
def awakeP : Sx.Make := { args := [], mem := mem0 1, val := .bool (.lit true), out := none }
theorem awake_make : makeRun (run1 21) awakeP = true := by kernel_rfl
noncomputable def sp2 : Specs := spOf [(19, touchX samePat), (20, touchX spoilPat), (21, makeX awakeP)]
theorem sp2_ok : SpecsOk Try.prog sp2 := spOf_ok (by
  intro x hx
  simp only [List.mem_cons, List.not_mem_nil, or_false] at hx
  rcases hx with rfl | rfl | rfl
  · exact same_ok
  · exact spoil_ok
  · exact makeX_ok (run1_ok 21) awakeP awake_make)
noncomputable def run2 (f : Nat) (args : List SV) : X SV := callD tab sp2 (bxOf []) 400 12 f args
theorem run2_ok (f : Nat) : SpecOk Try.prog f (run2 f) := call_ok sp2_ok noBx 400 12 f
end Go.Proofs.Ytgjbhgdmgncoaaa
