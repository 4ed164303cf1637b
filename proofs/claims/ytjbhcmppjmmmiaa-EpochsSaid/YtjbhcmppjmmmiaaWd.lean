/- Epochs: rounds, part 4. -/
import Derived.Test.YtjbhcmppjmmmiaaW
namespace Go.Proofs.Ytjbhcmppjmmmiaa
open Go.Sx Go
set_option maxRecDepth 100000
theorem e1_0_003 : okE true 0 0 0 3 = true := by kernel_rfl
theorem e1_0_210 : okE true 0 2 1 0 = true := by kernel_rfl
theorem e1_1_005 : okE true 1 0 0 5 = true := by kernel_rfl
theorem e1_1_210 : okE true 1 2 1 0 = true := by kernel_rfl
theorem e1_2_005 : okE true 2 0 0 5 = true := by kernel_rfl
theorem e1_2_212 : okE true 2 2 1 2 = true := by kernel_rfl
theorem e1_3_005 : okE true 3 0 0 5 = true := by kernel_rfl
theorem e1_3_210 : okE true 3 2 1 0 = true := by kernel_rfl
theorem e1_4_003 : okE true 4 0 0 3 = true := by kernel_rfl
theorem e1_4_210 : okE true 4 2 1 0 = true := by kernel_rfl
theorem e1_5_003 : okE true 5 0 0 3 = true := by kernel_rfl
theorem e1_5_201 : okE true 5 2 0 1 = true := by kernel_rfl
theorem e1_6_001 : okE true 6 0 0 1 = true := by kernel_rfl
theorem e1_6_130 : okE true 6 1 3 0 = true := by kernel_rfl
theorem e1_6_230 : okE true 6 2 3 0 = true := by kernel_rfl
theorem e1_7_110 : okE true 7 1 1 0 = true := by kernel_rfl
theorem e1_7_212 : okE true 7 2 1 2 = true := by kernel_rfl
theorem e1_8_003 : okE true 8 0 0 3 = true := by kernel_rfl
theorem e1_8_210 : okE true 8 2 1 0 = true := by kernel_rfl
theorem e1_9_003 : okE true 9 0 0 3 = true := by kernel_rfl
theorem e1_9_201 : okE true 9 2 0 1 = true := by kernel_rfl
theorem e1_10_001 : okE true 10 0 0 1 = true := by kernel_rfl
theorem e1_10_130 : okE true 10 1 3 0 = true := by kernel_rfl
theorem e1_10_232 : okE true 10 2 3 2 = true := by kernel_rfl
theorem e1_11_110 : okE true 11 1 1 0 = true := by kernel_rfl
theorem e1_11_212 : okE true 11 2 1 2 = true := by kernel_rfl
theorem e1_12_003 : okE true 12 0 0 3 = true := by kernel_rfl
theorem e1_12_210 : okE true 12 2 1 0 = true := by kernel_rfl
theorem e1_13_001 : okE true 13 0 0 1 = true := by kernel_rfl
theorem e1_13_130 : okE true 13 1 3 0 = true := by kernel_rfl
theorem e1_13_230 : okE true 13 2 3 0 = true := by kernel_rfl
theorem e1_14_005 : okE true 14 0 0 5 = true := by kernel_rfl
theorem e1_14_212 : okE true 14 2 1 2 = true := by kernel_rfl
theorem e1_15_001 : okE true 15 0 0 1 = true := by kernel_rfl
theorem e1_15_130 : okE true 15 1 3 0 = true := by kernel_rfl
theorem e1_15_221 : okE true 15 2 2 1 = true := by kernel_rfl
theorem e0_0_120 : okE false 0 1 2 0 = true := by kernel_rfl
theorem e0_1_110 : okE false 1 1 1 0 = true := by kernel_rfl
theorem e0_1_230 : okE false 1 2 3 0 = true := by kernel_rfl
theorem e0_2_211 : okE false 2 2 1 1 = true := by kernel_rfl
theorem e0_3_130 : okE false 3 1 3 0 = true := by kernel_rfl
theorem e0_3_230 : okE false 3 2 3 0 = true := by kernel_rfl
theorem e0_4_220 : okE false 4 2 2 0 = true := by kernel_rfl
theorem e0_5_130 : okE false 5 1 3 0 = true := by kernel_rfl
theorem e0_5_230 : okE false 5 2 3 0 = true := by kernel_rfl
theorem e0_6_211 : okE false 6 2 1 1 = true := by kernel_rfl
theorem e0_7_110 : okE false 7 1 1 0 = true := by kernel_rfl
theorem e0_7_212 : okE false 7 2 1 2 = true := by kernel_rfl
theorem e0_8_120 : okE false 8 1 2 0 = true := by kernel_rfl
theorem e0_9_000 : okE false 9 0 0 0 = true := by kernel_rfl
theorem e0_9_210 : okE false 9 2 1 0 = true := by kernel_rfl
theorem e0_10_120 : okE false 10 1 2 0 = true := by kernel_rfl
theorem e0_10_231 : okE false 10 2 3 1 = true := by kernel_rfl
theorem e0_11_201 : okE false 11 2 0 1 = true := by kernel_rfl
theorem e0_11_232 : okE false 11 2 3 2 = true := by kernel_rfl
theorem e0_12_220 : okE false 12 2 2 0 = true := by kernel_rfl
theorem e0_13_110 : okE false 13 1 1 0 = true := by kernel_rfl
theorem e0_13_221 : okE false 13 2 2 1 = true := by kernel_rfl
theorem e0_14_120 : okE false 14 1 2 0 = true := by kernel_rfl
theorem e0_14_222 : okE false 14 2 2 2 = true := by kernel_rfl
theorem e0_15_130 : okE false 15 1 3 0 = true := by kernel_rfl
theorem e0_15_221 : okE false 15 2 2 1 = true := by kernel_rfl
end Go.Proofs.Ytjbhcmppjmmmiaa
