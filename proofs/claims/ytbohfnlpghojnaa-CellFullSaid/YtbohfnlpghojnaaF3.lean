/- the law CellFull, run: by how many numbers come. -/
import Derived.Test.YtbohfnlpghojnaaA
namespace Go.Proofs.Ytbohfnlpghojnaa
open Go.Sx Go
set_option maxRecDepth 100000
theorem full_3 : allOf (run2 5 [slV 1 2 3 4, vi 6, vi 7] (slMem [slE 1 2 3 5 1] ((.var 3, 3, 3) :: slF 2 3 4 hi64) 10)) isTrue = true := by kernel_rfl
theorem full_7 : allOf (run2 5 [slV 1 2 3 4, vi 6, vi 7] (slMem [slE 1 2 3 5 1] ((.var 3, 7, 7) :: slF 2 3 4 hi64) 10)) isTrue = true := by kernel_rfl
theorem full_11 : allOf (run2 5 [slV 1 2 3 4, vi 6, vi 7] (slMem [slE 1 2 3 5 1] ((.var 3, 11, 11) :: slF 2 3 4 hi64) 10)) isTrue = true := by kernel_rfl
theorem full_15 : allOf (run2 5 [slV 1 2 3 4, vi 6, vi 7] (slMem [slE 1 2 3 5 1] ((.var 3, 15, 15) :: slF 2 3 4 hi64) 10)) isTrue = true := by kernel_rfl
theorem full_nil : allOf (run2 5 [.nils, vi 6, vi 7] (mem0 10)) isTrue = true := by kernel_rfl
end Go.Proofs.Ytbohfnlpghojnaa
