/- DescBack: runs, c. -/
import Derived.Test.YtofmndcdcchflaaBL
namespace Go.Proofs.Ytofmndcdcchflaa
open Go.Sx Go Go.DescNum
set_option maxRecDepth 100000
theorem lb_14 : allB false 14 = true := by kernel_rfl
theorem bk_14 : okBk false 14 = true := by kernel_rfl
theorem lb_13 : allB false 13 = true := by kernel_rfl
theorem bk_13 : okBk false 13 = true := by kernel_rfl
theorem lb_10 : allB false 10 = true := by kernel_rfl
theorem bk_10 : okBk false 10 = true := by kernel_rfl
theorem lb_7 : allB false 7 = true := by kernel_rfl
theorem bk_7 : okBk false 7 = true := by kernel_rfl
theorem lb_6 : allB false 6 = true := by kernel_rfl
theorem bk_6 : okBk false 6 = true := by kernel_rfl
theorem lb_1 : allB false 1 = true := by kernel_rfl
theorem bk_1 : okBk false 1 = true := by kernel_rfl
theorem lb_n : allB true 0 = true := by kernel_rfl
theorem bk_n : okBk true 0 = true := by kernel_rfl
theorem bk_m : okBm = true := by kernel_rfl
end Go.Proofs.Ytofmndcdcchflaa
