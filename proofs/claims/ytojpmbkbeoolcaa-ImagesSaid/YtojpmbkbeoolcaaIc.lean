/- the document's way: any cells, part 2. -/
import Derived.Test.YtojpmbkbeoolcaaGJ
namespace Go.Proofs.Ytojpmbkbeoolcaa
open Go.Sx Go
set_option maxRecDepth 100000
theorem c9_8 : (((good9.drop 8).take 1).all runC9) = true := by kernel_rfl
theorem c9_9 : (((good9.drop 9).take 1).all runC9) = true := by kernel_rfl
theorem c9_10 : (((good9.drop 10).take 1).all runC9) = true := by kernel_rfl
theorem c9_11 : (((good9.drop 11).take 1).all runC9) = true := by kernel_rfl
theorem c9_12 : (((good9.drop 12).take 1).all runC9) = true := by kernel_rfl
theorem c9_13 : (((good9.drop 13).take 1).all runC9) = true := by kernel_rfl
theorem c9_14 : (((good9.drop 14).take 1).all runC9) = true := by kernel_rfl
theorem c9_15 : (((good9.drop 15).take 1).all runC9) = true := by kernel_rfl
end Go.Proofs.Ytojpmbkbeoolcaa
