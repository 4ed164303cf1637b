/- LimboWaits: runs, part 1. -/
import Derived.Test.YtoemdbongkkmjaaWJ
namespace Go.Proofs.Ytoemdbongkkmjaa
open Go.Sx Go
set_option maxRecDepth 100000
theorem w12b0 : okWt 12 false 0 = true := by kernel_rfl
theorem w12b4 : okWt 12 false 4 = true := by kernel_rfl
theorem w12b6 : okWt 12 false 6 = true := by kernel_rfl
theorem w11a5 : okWt 11 true 5 = true := by kernel_rfl
theorem w10a2 : okWt 10 true 2 = true := by kernel_rfl
theorem w12b10 : okWt 12 false 10 = true := by kernel_rfl
theorem w12b11 : okWt 12 false 11 = true := by kernel_rfl
theorem w12b12 : okWt 12 false 12 = true := by kernel_rfl
theorem w9a2 : okWt 9 true 2 = true := by kernel_rfl
theorem w9a3 : okWt 9 true 3 = true := by kernel_rfl
theorem w8a0 : okWt 8 true 0 = true := by kernel_rfl
theorem w8a1 : okWt 8 true 1 = true := by kernel_rfl
theorem w8a2 : okWt 8 true 2 = true := by kernel_rfl
theorem w10b10 : okWt 10 false 10 = true := by kernel_rfl
theorem w9b7 : okWt 9 false 7 = true := by kernel_rfl
theorem w8b4 : okWt 8 false 4 = true := by kernel_rfl
theorem w8a7 : okWt 8 true 7 = true := by kernel_rfl
theorem w7a4 : okWt 7 true 4 = true := by kernel_rfl
theorem w8b8 : okWt 8 false 8 = true := by kernel_rfl
theorem w7a7 : okWt 7 true 7 = true := by kernel_rfl
theorem w5a0 : okWt 5 true 0 = true := by kernel_rfl
theorem w6a6 : okWt 6 true 6 = true := by kernel_rfl
theorem w6b6 : okWt 6 false 6 = true := by kernel_rfl
theorem w4a1 : okWt 4 true 1 = true := by kernel_rfl
theorem w4a3 : okWt 4 true 3 = true := by kernel_rfl
theorem w4b4 : okWt 4 false 4 = true := by kernel_rfl
theorem w2a0 : okWt 2 true 0 = true := by kernel_rfl
theorem w2b2 : okWt 2 false 2 = true := by kernel_rfl
theorem w0b0 : okWt 0 false 0 = true := by kernel_rfl
end Go.Proofs.Ytoemdbongkkmjaa
