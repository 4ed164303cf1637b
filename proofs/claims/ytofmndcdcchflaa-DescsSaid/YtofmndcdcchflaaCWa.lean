/- Descs: the steps, 16 11 8 5 2. -/
import Derived.Test.YtofmndcdcchflaaVL
namespace Go.Proofs.Ytofmndcdcchflaa
open Go.Sx Go Go.DescNum
set_option maxRecDepth 100000
theorem sw_16 : okW (headW 16) = true := by kernel_rfl
theorem sw_11 : okW (headW 11) = true := by kernel_rfl
theorem sw_8 : okW (headW 8) = true := by kernel_rfl
theorem sw_5 : okW (headW 5) = true := by kernel_rfl
theorem sw_2 : okW (headW 2) = true := by kernel_rfl
end Go.Proofs.Ytofmndcdcchflaa
