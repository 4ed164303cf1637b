/- Epochs: rounds, part 8. -/
import Derived.Test.YtjbhcmppjmmmiaaW
namespace Go.Proofs.Ytjbhcmppjmmmiaa
open Go.Sx Go
set_option maxRecDepth 100000
theorem e1_0_110 : okE true 0 1 1 0 = true := by kernel_rfl
theorem e1_1_001 : okE true 1 0 0 1 = true := by kernel_rfl
theorem e1_1_130 : okE true 1 1 3 0 = true := by kernel_rfl
theorem e1_2_001 : okE true 2 0 0 1 = true := by kernel_rfl
theorem e1_2_130 : okE true 2 1 3 0 = true := by kernel_rfl
theorem e1_3_001 : okE true 3 0 0 1 = true := by kernel_rfl
theorem e1_3_130 : okE true 3 1 3 0 = true := by kernel_rfl
theorem e1_3_230 : okE true 3 2 3 0 = true := by kernel_rfl
theorem e1_4_110 : okE true 4 1 1 0 = true := by kernel_rfl
theorem e1_4_230 : okE true 4 2 3 0 = true := by kernel_rfl
theorem e1_5_110 : okE true 5 1 1 0 = true := by kernel_rfl
theorem e1_5_221 : okE true 5 2 2 1 = true := by kernel_rfl
theorem e1_6_005 : okE true 6 0 0 5 = true := by kernel_rfl
theorem e1_6_212 : okE true 6 2 1 2 = true := by kernel_rfl
theorem e1_7_003 : okE true 7 0 0 3 = true := by kernel_rfl
theorem e1_7_201 : okE true 7 2 0 1 = true := by kernel_rfl
theorem e1_7_230 : okE true 7 2 3 0 = true := by kernel_rfl
theorem e1_8_110 : okE true 8 1 1 0 = true := by kernel_rfl
theorem e1_8_232 : okE true 8 2 3 2 = true := by kernel_rfl
theorem e1_9_110 : okE true 9 1 1 0 = true := by kernel_rfl
theorem e1_9_230 : okE true 9 2 3 0 = true := by kernel_rfl
theorem e1_10_005 : okE true 10 0 0 5 = true := by kernel_rfl
theorem e1_10_212 : okE true 10 2 1 2 = true := by kernel_rfl
theorem e1_11_003 : okE true 11 0 0 3 = true := by kernel_rfl
theorem e1_11_201 : okE true 11 2 0 1 = true := by kernel_rfl
theorem e1_11_232 : okE true 11 2 3 2 = true := by kernel_rfl
theorem e1_12_110 : okE true 12 1 1 0 = true := by kernel_rfl
theorem e1_12_230 : okE true 12 2 3 0 = true := by kernel_rfl
theorem e1_13_005 : okE true 13 0 0 5 = true := by kernel_rfl
theorem e1_13_210 : okE true 13 2 1 0 = true := by kernel_rfl
theorem e1_14_001 : okE true 14 0 0 1 = true := by kernel_rfl
theorem e1_14_130 : okE true 14 1 3 0 = true := by kernel_rfl
theorem e1_14_230 : okE true 14 2 3 0 = true := by kernel_rfl
theorem e1_15_005 : okE true 15 0 0 5 = true := by kernel_rfl
theorem e1_15_210 : okE true 15 2 1 0 = true := by kernel_rfl
theorem e1_15_232 : okE true 15 2 3 2 = true := by kernel_rfl
theorem e0_0_220 : okE false 0 2 2 0 = true := by kernel_rfl
theorem e0_1_201 : okE false 1 2 0 1 = true := by kernel_rfl
theorem e0_2_120 : okE false 2 1 2 0 = true := by kernel_rfl
theorem e0_3_000 : okE false 3 0 0 0 = true := by kernel_rfl
theorem e0_3_210 : okE false 3 2 1 0 = true := by kernel_rfl
theorem e0_4_120 : okE false 4 1 2 0 = true := by kernel_rfl
theorem e0_5_000 : okE false 5 0 0 0 = true := by kernel_rfl
theorem e0_5_210 : okE false 5 2 1 0 = true := by kernel_rfl
theorem e0_6_120 : okE false 6 1 2 0 = true := by kernel_rfl
theorem e0_6_222 : okE false 6 2 2 2 = true := by kernel_rfl
theorem e0_7_201 : okE false 7 2 0 1 = true := by kernel_rfl
theorem e0_7_230 : okE false 7 2 3 0 = true := by kernel_rfl
theorem e0_8_220 : okE false 8 2 2 0 = true := by kernel_rfl
theorem e0_9_130 : okE false 9 1 3 0 = true := by kernel_rfl
theorem e0_9_232 : okE false 9 2 3 2 = true := by kernel_rfl
theorem e0_10_211 : okE false 10 2 1 1 = true := by kernel_rfl
theorem e0_11_110 : okE false 11 1 1 0 = true := by kernel_rfl
theorem e0_11_212 : okE false 11 2 1 2 = true := by kernel_rfl
theorem e0_12_120 : okE false 12 1 2 0 = true := by kernel_rfl
theorem e0_12_231 : okE false 12 2 3 1 = true := by kernel_rfl
theorem e0_13_201 : okE false 13 2 0 1 = true := by kernel_rfl
theorem e0_13_232 : okE false 13 2 3 2 = true := by kernel_rfl
theorem e0_14_211 : okE false 14 2 1 1 = true := by kernel_rfl
theorem e0_15_000 : okE false 15 0 0 0 = true := by kernel_rfl
theorem e0_15_210 : okE false 15 2 1 0 = true := by kernel_rfl
theorem e0_15_232 : okE false 15 2 3 2 = true := by kernel_rfl
end Go.Proofs.Ytjbhcmppjmmmiaa
