/- LimboWaits: runs, part 3. -/
import Derived.Test.YtoemdbongkkmjaaWJ
namespace Go.Proofs.Ytoemdbongkkmjaa
open Go.Sx Go
set_option maxRecDepth 100000
theorem w12b2 : okWt 12 false 2 = true := by kernel_rfl
theorem w11a2 : okWt 11 true 2 = true := by kernel_rfl
theorem w11a4 : okWt 11 true 4 = true := by kernel_rfl
theorem w12b8 : okWt 12 false 8 = true := by kernel_rfl
theorem w11b5 : okWt 11 false 5 = true := by kernel_rfl
theorem w11a8 : okWt 11 true 8 = true := by kernel_rfl
theorem w11a9 : okWt 11 true 9 = true := by kernel_rfl
theorem w11a10 : okWt 11 true 10 = true := by kernel_rfl
theorem w11a11 : okWt 11 true 11 = true := by kernel_rfl
theorem w10b6 : okWt 10 false 6 = true := by kernel_rfl
theorem w10b7 : okWt 10 false 7 = true := by kernel_rfl
theorem w10a10 : okWt 10 true 10 = true := by kernel_rfl
theorem w9b5 : okWt 9 false 5 = true := by kernel_rfl
theorem w8b2 : okWt 8 false 2 = true := by kernel_rfl
theorem w9a9 : okWt 9 true 9 = true := by kernel_rfl
theorem w7b0 : okWt 7 false 0 = true := by kernel_rfl
theorem w7a3 : okWt 7 true 3 = true := by kernel_rfl
theorem w8b7 : okWt 8 false 7 = true := by kernel_rfl
theorem w7a6 : okWt 7 true 6 = true := by kernel_rfl
theorem w6a3 : okWt 6 true 3 = true := by kernel_rfl
theorem w6b3 : okWt 6 false 3 = true := by kernel_rfl
theorem w5a2 : okWt 5 true 2 = true := by kernel_rfl
theorem w5a4 : okWt 5 true 4 = true := by kernel_rfl
theorem w4b0 : okWt 4 false 0 = true := by kernel_rfl
theorem w4a4 : okWt 4 true 4 = true := by kernel_rfl
theorem w3a2 : okWt 3 true 2 = true := by kernel_rfl
theorem w2a1 : okWt 2 true 1 = true := by kernel_rfl
theorem w1a1 : okWt 1 true 1 = true := by kernel_rfl
end Go.Proofs.Ytoemdbongkkmjaa
