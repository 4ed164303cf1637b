/- FreeCounts: rounds, part 7. -/
import Derived.Test.YtalkfdkcimfmpaaX
namespace Go.Proofs.Ytalkfdkcimfmpaa
open Go.Sx Go
set_option maxRecDepth 100000
theorem x2_0 : allX 2 0 = true := by kernel_rfl
theorem x4_2 : allX 4 2 = true := by kernel_rfl
theorem x7_1 : allX 7 1 = true := by kernel_rfl
theorem x10_0 : allX 10 0 = true := by kernel_rfl
theorem x12_2 : allX 12 2 = true := by kernel_rfl
end Go.Proofs.Ytalkfdkcimfmpaa
