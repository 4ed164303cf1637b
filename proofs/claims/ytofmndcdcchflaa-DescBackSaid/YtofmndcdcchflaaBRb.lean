/- DescBack: runs, b. -/
import Derived.Test.YtofmndcdcchflaaBL
namespace Go.Proofs.Ytofmndcdcchflaa
open Go.Sx Go Go.DescNum
set_option maxRecDepth 100000
theorem lb_15 : allB false 15 = true := by kernel_rfl
theorem bk_15 : okBk false 15 = true := by kernel_rfl
theorem lb_12 : allB false 12 = true := by kernel_rfl
theorem bk_12 : okBk false 12 = true := by kernel_rfl
theorem lb_8 : allB false 8 = true := by kernel_rfl
theorem bk_8 : okBk false 8 = true := by kernel_rfl
theorem lb_4 : allB false 4 = true := by kernel_rfl
theorem bk_4 : okBk false 4 = true := by kernel_rfl
theorem lb_2 : allB false 2 = true := by kernel_rfl
theorem bk_2 : okBk false 2 = true := by kernel_rfl
end Go.Proofs.Ytofmndcdcchflaa
