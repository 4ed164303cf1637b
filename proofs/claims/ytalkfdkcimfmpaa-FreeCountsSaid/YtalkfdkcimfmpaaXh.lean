/- FreeCounts: rounds, part 8. -/
import Derived.Test.YtalkfdkcimfmpaaX
namespace Go.Proofs.Ytalkfdkcimfmpaa
open Go.Sx Go
set_option maxRecDepth 100000
theorem x2_1 : allX 2 1 = true := by kernel_rfl
theorem x5_0 : allX 5 0 = true := by kernel_rfl
theorem x7_2 : allX 7 2 = true := by kernel_rfl
theorem x10_1 : allX 10 1 = true := by kernel_rfl
end Go.Proofs.Ytalkfdkcimfmpaa
