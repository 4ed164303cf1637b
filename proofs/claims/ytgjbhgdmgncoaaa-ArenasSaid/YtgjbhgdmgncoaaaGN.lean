/- no accesses: nil, and an empty slice. -/
import Derived.Test.YtgjbhgdmgncoaaaM
namespace Go.Proofs.Ytgjbhgdmgncoaaa
open Go.Sx Go
set_option maxRecDepth 100000
theorem law3_nil_run : allOf (run2 3 [.nils] (mem0 10)) isTrue = true := by kernel_rfl
theorem law3_empty_run : allOf (run2 3 [emptyS] (mem0 10)) isTrue = true := by kernel_rfl
end Go.Proofs.Ytgjbhgdmgncoaaa
