/- Get: runs, part c. -/
import Derived.Test.YtofmndcdcchflaaGD
namespace Go.Proofs.Ytofmndcdcchflaa
open Go.Sx Go Go.DescNum
set_option maxRecDepth 100000
theorem rg14 : okGet 22 14 = true := by kernel_rfl
theorem rg11 : okGet 22 11 = true := by kernel_rfl
theorem rg6 : okGet 22 6 = true := by kernel_rfl
theorem rg3 : okGet 22 3 = true := by kernel_rfl
theorem rg0 : okGet 22 0 = true := by kernel_rfl
end Go.Proofs.Ytofmndcdcchflaa
