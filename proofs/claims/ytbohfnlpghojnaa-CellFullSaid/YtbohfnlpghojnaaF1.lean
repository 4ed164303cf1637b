/- the law CellFull, run: by how many numbers come. -/
import Derived.Test.YtbohfnlpghojnaaA
namespace Go.Proofs.Ytbohfnlpghojnaa
open Go.Sx Go
set_option maxRecDepth 100000
theorem full_1 : allOf (run2 5 [slV 1 2 3 4, vi 6, vi 7] (slMem [slE 1 2 3 5 1] ((.var 3, 1, 1) :: slF 2 3 4 hi64) 10)) isTrue = true := by kernel_rfl
theorem full_5 : allOf (run2 5 [slV 1 2 3 4, vi 6, vi 7] (slMem [slE 1 2 3 5 1] ((.var 3, 5, 5) :: slF 2 3 4 hi64) 10)) isTrue = true := by kernel_rfl
theorem full_9 : allOf (run2 5 [slV 1 2 3 4, vi 6, vi 7] (slMem [slE 1 2 3 5 1] ((.var 3, 9, 9) :: slF 2 3 4 hi64) 10)) isTrue = true := by kernel_rfl
theorem full_13 : allOf (run2 5 [slV 1 2 3 4, vi 6, vi 7] (slMem [slE 1 2 3 5 1] ((.var 3, 13, 13) :: slF 2 3 4 hi64) 10)) isTrue = true := by kernel_rfl
end Go.Proofs.Ytbohfnlpghojnaa
