/- FreeCounts: rounds, part 4. -/
import Derived.Test.YtalkfdkcimfmpaaX
namespace Go.Proofs.Ytalkfdkcimfmpaa
open Go.Sx Go
set_option maxRecDepth 100000
theorem x1_0 : allX 1 0 = true := by kernel_rfl
theorem x3_2 : allX 3 2 = true := by kernel_rfl
theorem x6_1 : allX 6 1 = true := by kernel_rfl
theorem x9_0 : allX 9 0 = true := by kernel_rfl
theorem x11_2 : allX 11 2 = true := by kernel_rfl
end Go.Proofs.Ytalkfdkcimfmpaa
