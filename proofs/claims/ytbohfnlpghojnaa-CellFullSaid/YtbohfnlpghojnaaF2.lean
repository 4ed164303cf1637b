/- the law CellFull, run: by how many numbers come. -/
import Derived.Test.YtbohfnlpghojnaaA
namespace Go.Proofs.Ytbohfnlpghojnaa
open Go.Sx Go
set_option maxRecDepth 100000
theorem full_2 : allOf (run2 5 [slV 1 2 3 4, vi 6, vi 7] (slMem [slE 1 2 3 5 1] ((.var 3, 2, 2) :: slF 2 3 4 hi64) 10)) isTrue = true := by kernel_rfl
theorem full_6 : allOf (run2 5 [slV 1 2 3 4, vi 6, vi 7] (slMem [slE 1 2 3 5 1] ((.var 3, 6, 6) :: slF 2 3 4 hi64) 10)) isTrue = true := by kernel_rfl
theorem full_10 : allOf (run2 5 [slV 1 2 3 4, vi 6, vi 7] (slMem [slE 1 2 3 5 1] ((.var 3, 10, 10) :: slF 2 3 4 hi64) 10)) isTrue = true := by kernel_rfl
theorem full_14 : allOf (run2 5 [slV 1 2 3 4, vi 6, vi 7] (slMem [slE 1 2 3 5 1] ((.var 3, 14, 14) :: slF 2 3 4 hi64) 10)) isTrue = true := by kernel_rfl
end Go.Proofs.Ytbohfnlpghojnaa
