/- the law CellFull, run: by how many numbers come. -/
import Derived.Test.YtbohfnlpghojnaaA
namespace Go.Proofs.Ytbohfnlpghojnaa
open Go.Sx Go
set_option maxRecDepth 100000
theorem full_0 : allOf (run2 5 [slV 1 2 3 4, vi 6, vi 7] (slMem [slE 1 2 3 5 1] ((.var 3, 0, 0) :: slF 2 3 4 hi64) 10)) isTrue = true := by kernel_rfl
theorem full_4 : allOf (run2 5 [slV 1 2 3 4, vi 6, vi 7] (slMem [slE 1 2 3 5 1] ((.var 3, 4, 4) :: slF 2 3 4 hi64) 10)) isTrue = true := by kernel_rfl
theorem full_8 : allOf (run2 5 [slV 1 2 3 4, vi 6, vi 7] (slMem [slE 1 2 3 5 1] ((.var 3, 8, 8) :: slF 2 3 4 hi64) 10)) isTrue = true := by kernel_rfl
theorem full_12 : allOf (run2 5 [slV 1 2 3 4, vi 6, vi 7] (slMem [slE 1 2 3 5 1] ((.var 3, 12, 12) :: slF 2 3 4 hi64) 10)) isTrue = true := by kernel_rfl
theorem full_16 : allOf (run2 5 [slV 1 2 3 4, vi 6, vi 7] (slMem [slE 1 2 3 5 1] ((.var 3, 16, hi64) :: slF 2 3 4 hi64) 10)) isTrue = true := by kernel_rfl
end Go.Proofs.Ytbohfnlpghojnaa
