/- the law Banks over views that may not be. -/
import Derived.Test.YthhjijadllpcpaaC
namespace Go.Proofs.Ythhjijadllpcpaa
open Go.Sx Go
set_option maxRecDepth 100000
theorem K_Bn : allOf (withB [(.var 10, lo64, -1)] fun m => fun1 3 [viewV 20 6 7, opV 10] m) isTrue = true := by kernel_rfl
theorem K_Bb : allOf (withB [(.var 10, 6, hi64)] fun m => fun1 3 [viewV 20 6 7, opV 10] m) isTrue = true := by kernel_rfl
theorem K_B0 : allOf (withB [] fun m => fun1 3 [viewV 20 6 7, opK 0] m) isTrue = true := by kernel_rfl
theorem K_B1 : allOf (withB [] fun m => fun1 3 [viewV 20 6 7, opK 1] m) isTrue = true := by kernel_rfl
theorem K_B2 : allOf (withB [] fun m => fun1 3 [viewV 20 6 7, opK 2] m) isTrue = true := by kernel_rfl
theorem K_B3 : allOf (withB [] fun m => fun1 3 [viewV 20 6 7, opK 3] m) isTrue = true := by kernel_rfl
theorem K_B4 : allOf (withB [] fun m => fun1 3 [viewV 20 6 7, opK 4] m) isTrue = true := by kernel_rfl
theorem K_B5 : allOf (withB [] fun m => fun1 3 [viewV 20 6 7, opK 5] m) isTrue = true := by kernel_rfl
end Go.Proofs.Ythhjijadllpcpaa
