/- FreeCounts: rounds, part 1. -/
import Derived.Test.YtalkfdkcimfmpaaX
namespace Go.Proofs.Ytalkfdkcimfmpaa
open Go.Sx Go
set_option maxRecDepth 100000
theorem x0_0 : allX 0 0 = true := by kernel_rfl
theorem x2_2 : allX 2 2 = true := by kernel_rfl
theorem x5_1 : allX 5 1 = true := by kernel_rfl
theorem x8_0 : allX 8 0 = true := by kernel_rfl
theorem x10_2 : allX 10 2 = true := by kernel_rfl
end Go.Proofs.Ytalkfdkcimfmpaa
