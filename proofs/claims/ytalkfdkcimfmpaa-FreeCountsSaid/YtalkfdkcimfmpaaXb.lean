/- FreeCounts: rounds, part 2. -/
import Derived.Test.YtalkfdkcimfmpaaX
namespace Go.Proofs.Ytalkfdkcimfmpaa
open Go.Sx Go
set_option maxRecDepth 100000
theorem x0_1 : allX 0 1 = true := by kernel_rfl
theorem x3_0 : allX 3 0 = true := by kernel_rfl
theorem x5_2 : allX 5 2 = true := by kernel_rfl
theorem x8_1 : allX 8 1 = true := by kernel_rfl
theorem x11_0 : allX 11 0 = true := by kernel_rfl
end Go.Proofs.Ytalkfdkcimfmpaa
