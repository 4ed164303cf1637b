/- LimboWaits: runs, part 6. -/
import Derived.Test.YtoemdbongkkmjaaWJ
namespace Go.Proofs.Ytoemdbongkkmjaa
open Go.Sx Go
set_option maxRecDepth 100000
theorem w11a1 : okWt 11 true 1 = true := by kernel_rfl
theorem w11a3 : okWt 11 true 3 = true := by kernel_rfl
theorem w11b3 : okWt 11 false 3 = true := by kernel_rfl
theorem w10b0 : okWt 10 false 0 = true := by kernel_rfl
theorem w10a3 : okWt 10 true 3 = true := by kernel_rfl
theorem w9a0 : okWt 9 true 0 = true := by kernel_rfl
theorem w9a1 : okWt 9 true 1 = true := by kernel_rfl
theorem w9b0 : okWt 9 false 0 = true := by kernel_rfl
theorem w9b1 : okWt 9 false 1 = true := by kernel_rfl
theorem w9a4 : okWt 9 true 4 = true := by kernel_rfl
theorem w9a5 : okWt 9 true 5 = true := by kernel_rfl
theorem w9a6 : okWt 9 true 6 = true := by kernel_rfl
theorem w8a3 : okWt 8 true 3 = true := by kernel_rfl
theorem w7a0 : okWt 7 true 0 = true := by kernel_rfl
theorem w9b8 : okWt 9 false 8 = true := by kernel_rfl
theorem w8b5 : okWt 8 false 5 = true := by kernel_rfl
theorem w7b2 : okWt 7 false 2 = true := by kernel_rfl
theorem w6a1 : okWt 6 true 1 = true := by kernel_rfl
theorem w7b5 : okWt 7 false 5 = true := by kernel_rfl
theorem w6a4 : okWt 6 true 4 = true := by kernel_rfl
theorem w6b4 : okWt 6 false 4 = true := by kernel_rfl
theorem w5a3 : okWt 5 true 3 = true := by kernel_rfl
theorem w5a5 : okWt 5 true 5 = true := by kernel_rfl
theorem w4b1 : okWt 4 false 1 = true := by kernel_rfl
theorem w3a1 : okWt 3 true 1 = true := by kernel_rfl
theorem w3b2 : okWt 3 false 2 = true := by kernel_rfl
theorem w2b1 : okWt 2 false 1 = true := by kernel_rfl
theorem w0a0 : okWt 0 true 0 = true := by kernel_rfl
end Go.Proofs.Ytoemdbongkkmjaa
