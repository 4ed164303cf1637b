/- FreeCounts: rounds, part 6. -/
import Derived.Test.YtalkfdkcimfmpaaX
namespace Go.Proofs.Ytalkfdkcimfmpaa
open Go.Sx Go
set_option maxRecDepth 100000
theorem x1_2 : allX 1 2 = true := by kernel_rfl
theorem x4_1 : allX 4 1 = true := by kernel_rfl
theorem x7_0 : allX 7 0 = true := by kernel_rfl
theorem x9_2 : allX 9 2 = true := by kernel_rfl
theorem x12_1 : allX 12 1 = true := by kernel_rfl
end Go.Proofs.Ytalkfdkcimfmpaa
