/- LimboWaits: runs, part 5. -/
import Derived.Test.YtoemdbongkkmjaaWJ
namespace Go.Proofs.Ytoemdbongkkmjaa
open Go.Sx Go
set_option maxRecDepth 100000
theorem w12b3 : okWt 12 false 3 = true := by kernel_rfl
theorem w11b1 : okWt 11 false 1 = true := by kernel_rfl
theorem w12b7 : okWt 12 false 7 = true := by kernel_rfl
theorem w11a6 : okWt 11 true 6 = true := by kernel_rfl
theorem w10b1 : okWt 10 false 1 = true := by kernel_rfl
theorem w10a4 : okWt 10 true 4 = true := by kernel_rfl
theorem w10a5 : okWt 10 true 5 = true := by kernel_rfl
theorem w10a6 : okWt 10 true 6 = true := by kernel_rfl
theorem w10a7 : okWt 10 true 7 = true := by kernel_rfl
theorem w9b2 : okWt 9 false 2 = true := by kernel_rfl
theorem w9b3 : okWt 9 false 3 = true := by kernel_rfl
theorem w8b0 : okWt 8 false 0 = true := by kernel_rfl
theorem w9a7 : okWt 9 true 7 = true := by kernel_rfl
theorem w8a4 : okWt 8 true 4 = true := by kernel_rfl
theorem w7a1 : okWt 7 true 1 = true := by kernel_rfl
theorem w9b9 : okWt 9 false 9 = true := by kernel_rfl
theorem w8a8 : okWt 8 true 8 = true := by kernel_rfl
theorem w7a5 : okWt 7 true 5 = true := by kernel_rfl
theorem w6a2 : okWt 6 true 2 = true := by kernel_rfl
theorem w6b2 : okWt 6 false 2 = true := by kernel_rfl
theorem w5a1 : okWt 5 true 1 = true := by kernel_rfl
theorem w5b1 : okWt 5 false 1 = true := by kernel_rfl
theorem w5b3 : okWt 5 false 3 = true := by kernel_rfl
theorem w5b5 : okWt 5 false 5 = true := by kernel_rfl
theorem w4b3 : okWt 4 false 3 = true := by kernel_rfl
theorem w3a3 : okWt 3 true 3 = true := by kernel_rfl
theorem w2a2 : okWt 2 true 2 = true := by kernel_rfl
theorem w1b1 : okWt 1 false 1 = true := by kernel_rfl
end Go.Proofs.Ytoemdbongkkmjaa
