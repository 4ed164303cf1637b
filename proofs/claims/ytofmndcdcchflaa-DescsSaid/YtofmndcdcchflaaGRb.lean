/- Get: runs, part b. -/
import Derived.Test.YtofmndcdcchflaaGD
namespace Go.Proofs.Ytofmndcdcchflaa
open Go.Sx Go Go.DescNum
set_option maxRecDepth 100000
theorem rg15 : okGet 22 15 = true := by kernel_rfl
theorem rg10 : okGet 22 10 = true := by kernel_rfl
theorem rg7 : okGet 22 7 = true := by kernel_rfl
theorem rg1 : okGet 22 1 = true := by kernel_rfl
end Go.Proofs.Ytofmndcdcchflaa
