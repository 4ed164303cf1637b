/- Get: runs, part d. -/
import Derived.Test.YtofmndcdcchflaaGD
namespace Go.Proofs.Ytofmndcdcchflaa
open Go.Sx Go Go.DescNum
set_option maxRecDepth 100000
theorem rg13 : okGet 22 13 = true := by kernel_rfl
theorem rg12 : okGet 22 12 = true := by kernel_rfl
theorem rg8 : okGet 22 8 = true := by kernel_rfl
theorem rg4 : okGet 22 4 = true := by kernel_rfl
theorem rgN : okNoV 22 = true := by kernel_rfl
theorem rgM : okMany 22 = true := by kernel_rfl
end Go.Proofs.Ytofmndcdcchflaa
