/- DescBack: runs, a. -/
import Derived.Test.YtofmndcdcchflaaBL
namespace Go.Proofs.Ytofmndcdcchflaa
open Go.Sx Go Go.DescNum
set_option maxRecDepth 100000
theorem lb_16 : allB false 16 = true := by kernel_rfl
theorem bk_16 : okBk false 16 = true := by kernel_rfl
theorem lb_11 : allB false 11 = true := by kernel_rfl
theorem bk_11 : okBk false 11 = true := by kernel_rfl
theorem lb_9 : allB false 9 = true := by kernel_rfl
theorem bk_9 : okBk false 9 = true := by kernel_rfl
theorem lb_5 : allB false 5 = true := by kernel_rfl
theorem bk_5 : okBk false 5 = true := by kernel_rfl
theorem lb_3 : allB false 3 = true := by kernel_rfl
theorem bk_3 : okBk false 3 = true := by kernel_rfl
theorem lb_0 : allB false 0 = true := by kernel_rfl
theorem bk_0 : okBk false 0 = true := by kernel_rfl
end Go.Proofs.Ytofmndcdcchflaa
