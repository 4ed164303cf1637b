/- Epochs: rounds, part 2. -/
import Derived.Test.YtjbhcmppjmmmiaaW
namespace Go.Proofs.Ytjbhcmppjmmmiaa
open Go.Sx Go
set_option maxRecDepth 100000
theorem e1_0_001 : okE true 0 0 0 1 = true := by kernel_rfl
theorem e1_0_130 : okE true 0 1 3 0 = true := by kernel_rfl
theorem e1_1_003 : okE true 1 0 0 3 = true := by kernel_rfl
theorem e1_1_201 : okE true 1 2 0 1 = true := by kernel_rfl
theorem e1_2_003 : okE true 2 0 0 3 = true := by kernel_rfl
theorem e1_2_210 : okE true 2 2 1 0 = true := by kernel_rfl
theorem e1_3_003 : okE true 3 0 0 3 = true := by kernel_rfl
theorem e1_3_201 : okE true 3 2 0 1 = true := by kernel_rfl
theorem e1_4_001 : okE true 4 0 0 1 = true := by kernel_rfl
theorem e1_4_130 : okE true 4 1 3 0 = true := by kernel_rfl
theorem e1_5_001 : okE true 5 0 0 1 = true := by kernel_rfl
theorem e1_5_130 : okE true 5 1 3 0 = true := by kernel_rfl
theorem e1_5_230 : okE true 5 2 3 0 = true := by kernel_rfl
theorem e1_6_110 : okE true 6 1 1 0 = true := by kernel_rfl
theorem e1_6_221 : okE true 6 2 2 1 = true := by kernel_rfl
theorem e1_7_005 : okE true 7 0 0 5 = true := by kernel_rfl
theorem e1_7_210 : okE true 7 2 1 0 = true := by kernel_rfl
theorem e1_8_001 : okE true 8 0 0 1 = true := by kernel_rfl
theorem e1_8_130 : okE true 8 1 3 0 = true := by kernel_rfl
theorem e1_9_001 : okE true 9 0 0 1 = true := by kernel_rfl
theorem e1_9_130 : okE true 9 1 3 0 = true := by kernel_rfl
theorem e1_9_232 : okE true 9 2 3 2 = true := by kernel_rfl
theorem e1_10_110 : okE true 10 1 1 0 = true := by kernel_rfl
theorem e1_10_230 : okE true 10 2 3 0 = true := by kernel_rfl
theorem e1_11_005 : okE true 11 0 0 5 = true := by kernel_rfl
theorem e1_11_210 : okE true 11 2 1 0 = true := by kernel_rfl
theorem e1_12_001 : okE true 12 0 0 1 = true := by kernel_rfl
theorem e1_12_130 : okE true 12 1 3 0 = true := by kernel_rfl
theorem e1_12_232 : okE true 12 2 3 2 = true := by kernel_rfl
theorem e1_13_110 : okE true 13 1 1 0 = true := by kernel_rfl
theorem e1_13_221 : okE true 13 2 2 1 = true := by kernel_rfl
theorem e1_14_003 : okE true 14 0 0 3 = true := by kernel_rfl
theorem e1_14_210 : okE true 14 2 1 0 = true := by kernel_rfl
theorem e1_14_232 : okE true 14 2 3 2 = true := by kernel_rfl
theorem e1_15_110 : okE true 15 1 1 0 = true := by kernel_rfl
theorem e1_15_212 : okE true 15 2 1 2 = true := by kernel_rfl
theorem e0_0_100 : okE false 0 1 0 0 = true := by kernel_rfl
theorem e0_1_000 : okE false 1 0 0 0 = true := by kernel_rfl
theorem e0_1_210 : okE false 1 2 1 0 = true := by kernel_rfl
theorem e0_2_200 : okE false 2 2 0 0 = true := by kernel_rfl
theorem e0_3_110 : okE false 3 1 1 0 = true := by kernel_rfl
theorem e0_3_212 : okE false 3 2 1 2 = true := by kernel_rfl
theorem e0_4_200 : okE false 4 2 0 0 = true := by kernel_rfl
theorem e0_5_110 : okE false 5 1 1 0 = true := by kernel_rfl
theorem e0_5_221 : okE false 5 2 2 1 = true := by kernel_rfl
theorem e0_6_200 : okE false 6 2 0 0 = true := by kernel_rfl
theorem e0_7_000 : okE false 7 0 0 0 = true := by kernel_rfl
theorem e0_7_210 : okE false 7 2 1 0 = true := by kernel_rfl
theorem e0_8_100 : okE false 8 1 0 0 = true := by kernel_rfl
theorem e0_8_231 : okE false 8 2 3 1 = true := by kernel_rfl
theorem e0_9_201 : okE false 9 2 0 1 = true := by kernel_rfl
theorem e0_10_100 : okE false 10 1 0 0 = true := by kernel_rfl
theorem e0_10_220 : okE false 10 2 2 0 = true := by kernel_rfl
theorem e0_11_130 : okE false 11 1 3 0 = true := by kernel_rfl
theorem e0_11_230 : okE false 11 2 3 0 = true := by kernel_rfl
theorem e0_12_200 : okE false 12 2 0 0 = true := by kernel_rfl
theorem e0_13_000 : okE false 13 0 0 0 = true := by kernel_rfl
theorem e0_13_210 : okE false 13 2 1 0 = true := by kernel_rfl
theorem e0_14_100 : okE false 14 1 0 0 = true := by kernel_rfl
theorem e0_14_220 : okE false 14 2 2 0 = true := by kernel_rfl
theorem e0_15_110 : okE false 15 1 1 0 = true := by kernel_rfl
theorem e0_15_212 : okE false 15 2 1 2 = true := by kernel_rfl
end Go.Proofs.Ytjbhcmppjmmmiaa
