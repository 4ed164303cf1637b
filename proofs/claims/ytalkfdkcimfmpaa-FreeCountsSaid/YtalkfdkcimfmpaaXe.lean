/- FreeCounts: rounds, part 5. -/
import Derived.Test.YtalkfdkcimfmpaaX
namespace Go.Proofs.Ytalkfdkcimfmpaa
open Go.Sx Go
set_option maxRecDepth 100000
theorem x1_1 : allX 1 1 = true := by kernel_rfl
theorem x4_0 : allX 4 0 = true := by kernel_rfl
theorem x6_2 : allX 6 2 = true := by kernel_rfl
theorem x9_1 : allX 9 1 = true := by kernel_rfl
theorem x12_0 : allX 12 0 = true := by kernel_rfl
end Go.Proofs.Ytalkfdkcimfmpaa
