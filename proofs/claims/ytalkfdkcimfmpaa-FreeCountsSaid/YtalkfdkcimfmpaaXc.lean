/- FreeCounts: rounds, part 3. -/
import Derived.Test.YtalkfdkcimfmpaaX
namespace Go.Proofs.Ytalkfdkcimfmpaa
open Go.Sx Go
set_option maxRecDepth 100000
theorem x0_2 : allX 0 2 = true := by kernel_rfl
theorem x3_1 : allX 3 1 = true := by kernel_rfl
theorem x6_0 : allX 6 0 = true := by kernel_rfl
theorem x8_2 : allX 8 2 = true := by kernel_rfl
theorem x11_1 : allX 11 1 = true := by kernel_rfl
end Go.Proofs.Ytalkfdkcimfmpaa
