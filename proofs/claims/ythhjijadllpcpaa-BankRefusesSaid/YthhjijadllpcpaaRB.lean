/- the law BankRefuses over views that may not be. -/
import Derived.Test.YthhjijadllpcpaaC
namespace Go.Proofs.Ythhjijadllpcpaa
open Go.Sx Go
set_option maxRecDepth 100000
theorem R_B0 : allOf (withB [(.var 10, lo64, 2)] fun m => fun1 7 [viewV 20 6 7, opV 10] m) isTrue = true := by kernel_rfl
theorem R_B1 : allOf (withB [(.var 10, 3, hi64)] fun m => fun1 7 [viewV 20 6 7, opV 10] m) isTrue = true := by kernel_rfl
end Go.Proofs.Ythhjijadllpcpaa
