/- no accesses: nil, and an empty slice. -/
import Derived.Test.YtgjbhgdmgncoaaaM
namespace Go.Proofs.Ytgjbhgdmgncoaaa
open Go.Sx Go
set_option maxRecDepth 100000
theorem law4_nil_run : allOf (run2 4 [.nils] (mem0 10)) isTrue = true := by kernel_rfl
theorem law4_empty_run : allOf (run2 4 [emptyS] (mem0 10)) isTrue = true := by kernel_rfl
end Go.Proofs.Ytgjbhgdmgncoaaa
