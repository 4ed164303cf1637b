/- the document's way: any cells, part 4. -/
import Derived.Test.YtojpmbkbeoolcaaGJ
namespace Go.Proofs.Ytojpmbkbeoolcaa
open Go.Sx Go
set_option maxRecDepth 100000
theorem c9_bad : (bad9.all runC9) = true := by kernel_rfl
theorem c9_24 : (((good9.drop 24).take 1).all runC9) = true := by kernel_rfl
theorem c9_25 : (((good9.drop 25).take 1).all runC9) = true := by kernel_rfl
theorem c9_26 : (((good9.drop 26).take 1).all runC9) = true := by kernel_rfl
theorem c9_27 : (((good9.drop 27).take 1).all runC9) = true := by kernel_rfl
theorem c9_28 : (((good9.drop 28).take 1).all runC9) = true := by kernel_rfl
theorem c9_29 : (((good9.drop 29).take 1).all runC9) = true := by kernel_rfl
theorem c9_30 : (((good9.drop 30).take 1).all runC9) = true := by kernel_rfl
theorem c9_31 : (((good9.drop 31).take 1).all runC9) = true := by kernel_rfl
end Go.Proofs.Ytojpmbkbeoolcaa
