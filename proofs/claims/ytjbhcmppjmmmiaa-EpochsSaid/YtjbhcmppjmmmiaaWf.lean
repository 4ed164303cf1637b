/- Epochs: rounds, part 6. -/
import Derived.Test.YtjbhcmppjmmmiaaW
namespace Go.Proofs.Ytjbhcmppjmmmiaa
open Go.Sx Go
set_option maxRecDepth 100000
theorem e1_0_005 : okE true 0 0 0 5 = true := by kernel_rfl
theorem e1_0_230 : okE true 0 2 3 0 = true := by kernel_rfl
theorem e1_1_110 : okE true 1 1 1 0 = true := by kernel_rfl
theorem e1_1_230 : okE true 1 2 3 0 = true := by kernel_rfl
theorem e1_2_110 : okE true 2 1 1 0 = true := by kernel_rfl
theorem e1_2_230 : okE true 2 2 3 0 = true := by kernel_rfl
theorem e1_3_110 : okE true 3 1 1 0 = true := by kernel_rfl
theorem e1_3_212 : okE true 3 2 1 2 = true := by kernel_rfl
theorem e1_4_005 : okE true 4 0 0 5 = true := by kernel_rfl
theorem e1_4_221 : okE true 4 2 2 1 = true := by kernel_rfl
theorem e1_5_005 : okE true 5 0 0 5 = true := by kernel_rfl
theorem e1_5_210 : okE true 5 2 1 0 = true := by kernel_rfl
theorem e1_6_003 : okE true 6 0 0 3 = true := by kernel_rfl
theorem e1_6_210 : okE true 6 2 1 0 = true := by kernel_rfl
theorem e1_7_001 : okE true 7 0 0 1 = true := by kernel_rfl
theorem e1_7_130 : okE true 7 1 3 0 = true := by kernel_rfl
theorem e1_7_221 : okE true 7 2 2 1 = true := by kernel_rfl
theorem e1_8_005 : okE true 8 0 0 5 = true := by kernel_rfl
theorem e1_8_230 : okE true 8 2 3 0 = true := by kernel_rfl
theorem e1_9_005 : okE true 9 0 0 5 = true := by kernel_rfl
theorem e1_9_210 : okE true 9 2 1 0 = true := by kernel_rfl
theorem e1_10_003 : okE true 10 0 0 3 = true := by kernel_rfl
theorem e1_10_210 : okE true 10 2 1 0 = true := by kernel_rfl
theorem e1_11_001 : okE true 11 0 0 1 = true := by kernel_rfl
theorem e1_11_130 : okE true 11 1 3 0 = true := by kernel_rfl
theorem e1_11_230 : okE true 11 2 3 0 = true := by kernel_rfl
theorem e1_12_005 : okE true 12 0 0 5 = true := by kernel_rfl
theorem e1_12_221 : okE true 12 2 2 1 = true := by kernel_rfl
theorem e1_13_003 : okE true 13 0 0 3 = true := by kernel_rfl
theorem e1_13_201 : okE true 13 2 0 1 = true := by kernel_rfl
theorem e1_13_232 : okE true 13 2 3 2 = true := by kernel_rfl
theorem e1_14_110 : okE true 14 1 1 0 = true := by kernel_rfl
theorem e1_14_221 : okE true 14 2 2 1 = true := by kernel_rfl
theorem e1_15_003 : okE true 15 0 0 3 = true := by kernel_rfl
theorem e1_15_201 : okE true 15 2 0 1 = true := by kernel_rfl
theorem e1_15_230 : okE true 15 2 3 0 = true := by kernel_rfl
theorem e0_0_200 : okE false 0 2 0 0 = true := by kernel_rfl
theorem e0_1_130 : okE false 1 1 3 0 = true := by kernel_rfl
theorem e0_2_100 : okE false 2 1 0 0 = true := by kernel_rfl
theorem e0_2_220 : okE false 2 2 2 0 = true := by kernel_rfl
theorem e0_3_201 : okE false 3 2 0 1 = true := by kernel_rfl
theorem e0_4_100 : okE false 4 1 0 0 = true := by kernel_rfl
theorem e0_4_222 : okE false 4 2 2 2 = true := by kernel_rfl
theorem e0_5_201 : okE false 5 2 0 1 = true := by kernel_rfl
theorem e0_6_100 : okE false 6 1 0 0 = true := by kernel_rfl
theorem e0_6_220 : okE false 6 2 2 0 = true := by kernel_rfl
theorem e0_7_130 : okE false 7 1 3 0 = true := by kernel_rfl
theorem e0_7_221 : okE false 7 2 2 1 = true := by kernel_rfl
theorem e0_8_200 : okE false 8 2 0 0 = true := by kernel_rfl
theorem e0_9_110 : okE false 9 1 1 0 = true := by kernel_rfl
theorem e0_9_230 : okE false 9 2 3 0 = true := by kernel_rfl
theorem e0_10_200 : okE false 10 2 0 0 = true := by kernel_rfl
theorem e0_11_000 : okE false 11 0 0 0 = true := by kernel_rfl
theorem e0_11_210 : okE false 11 2 1 0 = true := by kernel_rfl
theorem e0_12_100 : okE false 12 1 0 0 = true := by kernel_rfl
theorem e0_12_222 : okE false 12 2 2 2 = true := by kernel_rfl
theorem e0_13_130 : okE false 13 1 3 0 = true := by kernel_rfl
theorem e0_13_230 : okE false 13 2 3 0 = true := by kernel_rfl
theorem e0_14_200 : okE false 14 2 0 0 = true := by kernel_rfl
theorem e0_14_231 : okE false 14 2 3 1 = true := by kernel_rfl
theorem e0_15_201 : okE false 15 2 0 1 = true := by kernel_rfl
theorem e0_15_230 : okE false 15 2 3 0 = true := by kernel_rfl
end Go.Proofs.Ytjbhcmppjmmmiaa
