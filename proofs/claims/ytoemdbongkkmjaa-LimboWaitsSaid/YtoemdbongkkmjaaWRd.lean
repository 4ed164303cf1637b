/- LimboWaits: runs, part 4. -/
import Derived.Test.YtoemdbongkkmjaaWJ
namespace Go.Proofs.Ytoemdbongkkmjaa
open Go.Sx Go
set_option maxRecDepth 100000
theorem w11a0 : okWt 11 true 0 = true := by kernel_rfl
theorem w12b5 : okWt 12 false 5 = true := by kernel_rfl
theorem w10a0 : okWt 10 true 0 = true := by kernel_rfl
theorem w11b4 : okWt 11 false 4 = true := by kernel_rfl
theorem w11a7 : okWt 11 true 7 = true := by kernel_rfl
theorem w10b2 : okWt 10 false 2 = true := by kernel_rfl
theorem w10b3 : okWt 10 false 3 = true := by kernel_rfl
theorem w10b4 : okWt 10 false 4 = true := by kernel_rfl
theorem w10b5 : okWt 10 false 5 = true := by kernel_rfl
theorem w10a8 : okWt 10 true 8 = true := by kernel_rfl
theorem w10a9 : okWt 10 true 9 = true := by kernel_rfl
theorem w9b4 : okWt 9 false 4 = true := by kernel_rfl
theorem w8b1 : okWt 8 false 1 = true := by kernel_rfl
theorem w9a8 : okWt 9 true 8 = true := by kernel_rfl
theorem w8a5 : okWt 8 true 5 = true := by kernel_rfl
theorem w7a2 : okWt 7 true 2 = true := by kernel_rfl
theorem w8b6 : okWt 8 false 6 = true := by kernel_rfl
theorem w7b3 : okWt 7 false 3 = true := by kernel_rfl
theorem w6b0 : okWt 6 false 0 = true := by kernel_rfl
theorem w7b6 : okWt 7 false 6 = true := by kernel_rfl
theorem w6a5 : okWt 6 true 5 = true := by kernel_rfl
theorem w6b5 : okWt 6 false 5 = true := by kernel_rfl
theorem w4a0 : okWt 4 true 0 = true := by kernel_rfl
theorem w4a2 : okWt 4 true 2 = true := by kernel_rfl
theorem w3a0 : okWt 3 true 0 = true := by kernel_rfl
theorem w3b1 : okWt 3 false 1 = true := by kernel_rfl
theorem w2b0 : okWt 2 false 0 = true := by kernel_rfl
theorem w1b0 : okWt 1 false 0 = true := by kernel_rfl
end Go.Proofs.Ytoemdbongkkmjaa
