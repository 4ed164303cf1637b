/- Get: runs, part a. -/
import Derived.Test.YtofmndcdcchflaaGD
namespace Go.Proofs.Ytofmndcdcchflaa
open Go.Sx Go Go.DescNum
set_option maxRecDepth 100000
theorem rg16 : okGet 22 16 = true := by kernel_rfl
theorem rg9 : okGet 22 9 = true := by kernel_rfl
theorem rg5 : okGet 22 5 = true := by kernel_rfl
theorem rg2 : okGet 22 2 = true := by kernel_rfl
end Go.Proofs.Ytofmndcdcchflaa
