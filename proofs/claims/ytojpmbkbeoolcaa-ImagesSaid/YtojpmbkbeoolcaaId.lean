/- the document's way: any cells, part 3. -/
import Derived.Test.YtojpmbkbeoolcaaGJ
namespace Go.Proofs.Ytojpmbkbeoolcaa
open Go.Sx Go
set_option maxRecDepth 100000
theorem c9_16 : (((good9.drop 16).take 1).all runC9) = true := by kernel_rfl
theorem c9_17 : (((good9.drop 17).take 1).all runC9) = true := by kernel_rfl
theorem c9_18 : (((good9.drop 18).take 1).all runC9) = true := by kernel_rfl
theorem c9_19 : (((good9.drop 19).take 1).all runC9) = true := by kernel_rfl
theorem c9_20 : (((good9.drop 20).take 1).all runC9) = true := by kernel_rfl
theorem c9_21 : (((good9.drop 21).take 1).all runC9) = true := by kernel_rfl
theorem c9_22 : (((good9.drop 22).take 1).all runC9) = true := by kernel_rfl
theorem c9_23 : (((good9.drop 23).take 1).all runC9) = true := by kernel_rfl
end Go.Proofs.Ytojpmbkbeoolcaa
