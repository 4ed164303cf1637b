/- the law ArenaForms, run. -/
import Derived.Test.YtgjbhgdmgncoaaaB
namespace Go.Proofs.Ytgjbhgdmgncoaaa
open Go.Sx Go
set_option maxRecDepth 100000
theorem forms_run : allOf (run1 5 [vi 1, vi 2] (mem0 3)) isTrue = true := by kernel_rfl
end Go.Proofs.Ytgjbhgdmgncoaaa
