/- Descs: the steps, 14 13 10 9 6 3 0. -/
import Derived.Test.YtofmndcdcchflaaVL
namespace Go.Proofs.Ytofmndcdcchflaa
open Go.Sx Go Go.DescNum
set_option maxRecDepth 100000
theorem sw_14 : okW (headW 14) = true := by kernel_rfl
theorem sw_13 : okW (headW 13) = true := by kernel_rfl
theorem sw_10 : okW (headW 10) = true := by kernel_rfl
theorem sw_9 : okW (headW 9) = true := by kernel_rfl
theorem sw_6 : okW (headW 6) = true := by kernel_rfl
theorem sw_3 : okW (headW 3) = true := by kernel_rfl
theorem sw_0 : okW (headW 0) = true := by kernel_rfl
end Go.Proofs.Ytofmndcdcchflaa
