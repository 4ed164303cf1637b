/- Descs: the steps, 15 12 7 4 1. -/
import Derived.Test.YtofmndcdcchflaaVL
namespace Go.Proofs.Ytofmndcdcchflaa
open Go.Sx Go Go.DescNum
set_option maxRecDepth 100000
theorem sw_15 : okW (headW 15) = true := by kernel_rfl
theorem sw_12 : okW (headW 12) = true := by kernel_rfl
theorem sw_7 : okW (headW 7) = true := by kernel_rfl
theorem sw_4 : okW (headW 4) = true := by kernel_rfl
theorem sw_1 : okW (headW 1) = true := by kernel_rfl
end Go.Proofs.Ytofmndcdcchflaa
