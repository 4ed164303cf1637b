/- LimboWaits: runs, part 2. -/
import Derived.Test.YtoemdbongkkmjaaWJ
namespace Go.Proofs.Ytoemdbongkkmjaa
open Go.Sx Go
set_option maxRecDepth 100000
theorem w12b1 : okWt 12 false 1 = true := by kernel_rfl
theorem w11b0 : okWt 11 false 0 = true := by kernel_rfl
theorem w11b2 : okWt 11 false 2 = true := by kernel_rfl
theorem w10a1 : okWt 10 true 1 = true := by kernel_rfl
theorem w12b9 : okWt 12 false 9 = true := by kernel_rfl
theorem w11b6 : okWt 11 false 6 = true := by kernel_rfl
theorem w11b7 : okWt 11 false 7 = true := by kernel_rfl
theorem w11b8 : okWt 11 false 8 = true := by kernel_rfl
theorem w11b9 : okWt 11 false 9 = true := by kernel_rfl
theorem w11b10 : okWt 11 false 10 = true := by kernel_rfl
theorem w11b11 : okWt 11 false 11 = true := by kernel_rfl
theorem w10b8 : okWt 10 false 8 = true := by kernel_rfl
theorem w10b9 : okWt 10 false 9 = true := by kernel_rfl
theorem w9b6 : okWt 9 false 6 = true := by kernel_rfl
theorem w8b3 : okWt 8 false 3 = true := by kernel_rfl
theorem w8a6 : okWt 8 true 6 = true := by kernel_rfl
theorem w7b1 : okWt 7 false 1 = true := by kernel_rfl
theorem w6a0 : okWt 6 true 0 = true := by kernel_rfl
theorem w7b4 : okWt 7 false 4 = true := by kernel_rfl
theorem w6b1 : okWt 6 false 1 = true := by kernel_rfl
theorem w7b7 : okWt 7 false 7 = true := by kernel_rfl
theorem w5b0 : okWt 5 false 0 = true := by kernel_rfl
theorem w5b2 : okWt 5 false 2 = true := by kernel_rfl
theorem w5b4 : okWt 5 false 4 = true := by kernel_rfl
theorem w4b2 : okWt 4 false 2 = true := by kernel_rfl
theorem w3b0 : okWt 3 false 0 = true := by kernel_rfl
theorem w3b3 : okWt 3 false 3 = true := by kernel_rfl
theorem w1a0 : okWt 1 true 0 = true := by kernel_rfl
end Go.Proofs.Ytoemdbongkkmjaa
