/- the law BankNeeds over views that may not be. -/
import Derived.Test.YthhjijadllpcpaaN
namespace Go.Proofs.Ythhjijadllpcpaa
open Go.Sx Go
set_option maxRecDepth 100000
theorem N_B0 : allOf (withB [(.var 10, lo64, 2)] fun m => fun5 4 [viewV 20 6 7, opV 10, vi 9] m) isTrue = true := by kernel_rfl
theorem N_B1 : allOf (withB [(.var 10, 3, hi64)] fun m => fun5 4 [viewV 20 6 7, opV 10, vi 9] m) isTrue = true := by kernel_rfl
end Go.Proofs.Ythhjijadllpcpaa
