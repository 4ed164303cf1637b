/- the law BankLimits, run. -/
import Derived.Test.YthhjijadllpcpaaQA
namespace Go.Proofs.Ythhjijadllpcpaa
open Go.Sx Go
set_option maxRecDepth 100000
theorem limits_run : allOf (fun1 6 [vi 6, vi 7] (mem0 10)) isTrue = true := by kernel_rfl
end Go.Proofs.Ythhjijadllpcpaa
