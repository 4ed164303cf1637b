/- ImageTells, by its runs. -/
import Derived.Test.YtojpmbkbeoolcaaTT
namespace Go.Proofs.Ytojpmbkbeoolcaa
open Go.Sx Go
set_option maxRecDepth 100000
theorem ti_0 : allOf (funL spT 4 [stV 1 20, vi 5, .sli 46 0 (.var 47) (.lit 0) (.var 49)] (memO [(.var 48, 0, 0)])) isTrue = true := by kernel_rfl
theorem ti_n : allOf (funL spT 4 [stV 1 20, vi 5, .nils] (slMem [] [] 60)) isTrue = true := by kernel_rfl
theorem ti_3 : runTells [(.var 48, 3, 4398046510976)] = true := by kernel_rfl
theorem ti_1 : runTells [(.var 48, 1, 1)] = true := by kernel_rfl
end Go.Proofs.Ytojpmbkbeoolcaa
