/- no accesses: nil, and an empty slice. -/
import Derived.Test.YtgjbhgdmgncoaaaM
namespace Go.Proofs.Ytgjbhgdmgncoaaa
open Go.Sx Go
set_option maxRecDepth 100000
theorem law6_nil_run : allOf (run2 6 [.nils] (mem0 10)) isTrue = true := by kernel_rfl
theorem law6_empty_run : allOf (run2 6 [emptyS] (mem0 10)) isTrue = true := by kernel_rfl
end Go.Proofs.Ytgjbhgdmgncoaaa
