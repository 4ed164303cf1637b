/- the document's way: any cells, part 1. -/
import Derived.Test.YtojpmbkbeoolcaaGJ
namespace Go.Proofs.Ytojpmbkbeoolcaa
open Go.Sx Go
set_option maxRecDepth 100000
theorem c9_0 : (((good9.drop 0).take 1).all runC9) = true := by kernel_rfl
theorem c9_1 : (((good9.drop 1).take 1).all runC9) = true := by kernel_rfl
theorem c9_2 : (((good9.drop 2).take 1).all runC9) = true := by kernel_rfl
theorem c9_3 : (((good9.drop 3).take 1).all runC9) = true := by kernel_rfl
theorem c9_4 : (((good9.drop 4).take 1).all runC9) = true := by kernel_rfl
theorem c9_5 : (((good9.drop 5).take 1).all runC9) = true := by kernel_rfl
theorem c9_6 : (((good9.drop 6).take 1).all runC9) = true := by kernel_rfl
theorem c9_7 : (((good9.drop 7).take 1).all runC9) = true := by kernel_rfl
end Go.Proofs.Ytojpmbkbeoolcaa
